package bitmap_test

import (
	"maps"
	"slices"
	"strconv"
	"strings"

	"wicketgate/api"
	"wicketgate/insn"
)

// allowed is the word of Allow with the data 0.
const allowed = 0x7fff0000

// in answers the instruction of a name, with a K.
func in(name string, k uint32) api.Insn {
	code, ok := insn.Code(name)
	if !ok {
		panic(name)
	}
	return api.Insn{Code: code, K: k}
}

// test answers the test of a name.
func test(name string, k uint32, jt, jf uint8) api.Insn {
	x := in(name, k)
	x.Jt, x.Jf = jt, jf
	return x
}

// known is what is known of numbers, by their names: A, X, and the places of Mem. What is not there is not known; nil is a state that is not reached.
type known map[string]uint32

// names are the names of all numbers of a state.
var names = strings.Fields("A X 0 1 2 3 4 5 6 7 8 9 10 11 12 13 14 15")

// meet answers what both know alike, or the one that is reached.
func meet(a, b known) known {
	if a == nil {
		return b
	}
	if b == nil {
		return a
	}
	both := known{}
	for name, x := range a {
		if y, is := b[name]; is && x == y {
			both[name] = x
		}
	}
	return both
}

// state answers the state that k tells.
func state(k known) api.State {
	if k == nil {
		return api.State{}
	}
	s := api.State{Reached: true}
	for name, x := range k {
		abs := api.Abs{Known: true, Value: x}
		switch name {
		case "A":
			s.A = abs
		case "X":
			s.X = abs
		default:
			i, _ := strconv.Atoi(name)
			s.Mem[i] = abs
		}
	}
	return s
}

// put writes what k knows of a number over another one: nothing, if it does not know it.
func put(k known, name, from string) {
	if x, is := k[from]; is {
		k[name] = x
	} else {
		delete(k, name)
	}
}

// arithmetic answers what A becomes as the chapter of machines tells it; false of a division by nought.
func arithmetic(head string, a, b uint64) (uint32, bool) {
	switch head {
	case "add":
		return uint32((a + b) % (1 << 32)), true
	case "sub":
		return uint32((1<<32 + a - b) % (1 << 32)), true
	case "mul":
		return uint32(a * b % (1 << 32)), true
	case "div":
		if b == 0 {
			return 0, false
		}
		return uint32((a - a%b) / b), true
	case "or":
		return uint32(a + b - a&b), true
	case "and":
		return uint32((a + b - (a ^ b)) / 2), true
	case "xor":
		return uint32(a + b - 2*(a&b)), true
	case "lsh":
		for ; b > 0 && a > 0; b-- {
			a = a * 2 % (1 << 32)
		}
		return uint32(a), true
	case "rsh":
		for ; b > 0 && a > 0; b-- {
			a /= 2
		}
		return uint32(a), true
	}
	panic(head)
}

// holds answers whether a test holds.
func holds(head string, a, b uint32) bool {
	switch head {
	case "jeq":
		return int64(a)-int64(b) == 0
	case "jgt":
		return int64(a)-int64(b) > 0
	case "jge":
		return int64(a)-int64(b) >= 0
	case "jset":
		common, _ := arithmetic("and", uint64(a), uint64(b))
		return common > 0
	}
	panic(head)
}

// leaf is one thing that may be returned: nothing is known of it, if it is nil.
type leaf *uint32

// told answers how far x goes on from k (none: not at all), what is known then, and all that may be returned, as the chapter's list tells it.
func told(x api.Insn, k known, nr, arch uint32) (further []int, then known, leaves []leaf) {
	name, _ := insn.Name(x.Code)
	head, side, _ := strings.Cut(name, ".")
	then = maps.Clone(k)
	a, knowsA := k["A"]
	b, knowsB := k["X"]
	if side == "k" {
		b, knowsB = x.K, true
	}
	switch head {
	case "ld", "ldx":
		then["imm"], then["len"], then["bytes 0"], then["bytes 4"] = x.K, 64, nr, arch
		from := map[string]string{"imm": "imm", "len": "len", "mem": strconv.Itoa(int(x.K)), "abs": "bytes " + strconv.Itoa(int(x.K))}[side]
		put(then, map[string]string{"ld": "A", "ldx": "X"}[head], from)
		maps.DeleteFunc(then, func(name string, _ uint32) bool { return !slices.Contains(names, name) })
	case "st":
		put(then, strconv.Itoa(int(x.K)), "A")
	case "stx":
		put(then, strconv.Itoa(int(x.K)), "X")
	case "tax":
		put(then, "X", "A")
	case "txa":
		put(then, "A", "X")
	case "neg":
		if knowsA {
			then["A"], _ = arithmetic("sub", 0, uint64(a))
		}
	case "ja":
		return []int{int(x.K)}, then, nil
	case "jeq", "jgt", "jge", "jset":
		if !knowsA || !knowsB {
			return []int{int(x.Jt), int(x.Jf)}, then, nil
		}
		if holds(head, a, b) {
			return []int{int(x.Jt)}, then, nil
		}
		return []int{int(x.Jf)}, then, nil
	case "ret":
		if side == "k" {
			return nil, nil, []leaf{&x.K}
		}
		if !knowsA {
			return nil, nil, []leaf{nil}
		}
		return nil, nil, []leaf{&a}
	default:
		if name == "div.x" && knowsB && b == 0 {
			return nil, nil, []leaf{new(uint32)}
		}
		if name == "div.x" && !knowsB {
			leaves = []leaf{new(uint32)}
		}
		delete(then, "A")
		if knowsA && knowsB {
			then["A"], _ = arithmetic(head, uint64(a), uint64(b))
		}
	}
	return []int{0}, then, leaves
}

// whole answers what is known ahead of each place, and of what is returned, as the chapter's words tell it: each place asks all those ahead of it.
func whole(p []api.Insn, nr, arch uint32) ([]api.State, api.Abs) {
	further, thens := make([][]int, len(p)), make([]known, len(p))
	states := make([]api.State, len(p))
	var leaves []leaf
	for i := range p {
		var ahead known
		if i == 0 {
			ahead = known{}
			for _, name := range names {
				ahead[name] = 0
			}
		}
		for j := range i {
			for _, n := range further[j] {
				if j+1+n == i {
					ahead = meet(ahead, thens[j])
				}
			}
		}
		states[i] = state(ahead)
		if ahead != nil {
			var l []leaf
			further[i], thens[i], l = told(p[i], ahead, nr, arch)
			leaves = append(leaves, l...)
		}
	}
	return states, one(leaves)
}

// one answers what is known of a word that is one of these.
func one(leaves []leaf) api.Abs {
	for _, l := range leaves {
		if l == nil || *l != *leaves[0] {
			return api.Abs{}
		}
	}
	return api.Abs{Known: true, Value: *leaves[0]}
}
