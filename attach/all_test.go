package attach_test

import (
	"slices"
	"strconv"
	"testing"

	"wicketgate/api"
	"wicketgate/attach"
	"wicketgate/chain"
)

// key answers a text that says all of c.
func key(c api.Cage) string {
	var b []byte
	write := func(x int) { b = append(strconv.AppendInt(b, int64(x), 10), ' ') }
	for _, g := range c.Guards {
		write(g.Tid)
		write(g.Cred.Uid)
		b = strconv.AppendBool(strconv.AppendBool(b, g.Cred.Admin), g.Cred.NoNew)
		write(g.Cred.Mode)
		write(g.Head)
	}
	for _, n := range c.Pool.Nodes {
		write(n.Id)
		write(n.Parent)
		write(n.Count)
		b = append(b, bytesOf(n.Program)...)
	}
	return string(b)
}

// few answers calls of three threads.
func few() []act {
	var l []act
	for _, tid := range []int{1, 2, 3} {
		next := tid%3 + 1
		l = append(l,
			attaches(tid, nil, 0, refuse), attaches(tid, []int{next}, 1, refuse), attaches(tid, []int{3, 2, 1}, 3, refuse),
			inherits(tid, next), leaves(tid), renames(tid, next), sets(tid, api.Cred{NoNew: true}), sets(tid, api.Cred{Mode: 1}), sets(tid, api.Cred{NoNew: true, Mode: 2}),
		)
	}
	return l
}

func TestAllThatComesOfFewCalls(t *testing.T) { // P15.1 to P15.7
	met := map[string]int{}
	all := few()
	whole := []api.Cage{begun(t, 2)}
	for depth := range 7 {
		var further []api.Cage
		for _, c := range whole {
			w := tell(c)
			tells(t, w, c)
			for _, tid := range []int{1, 2, 3} {
				for _, others := range [][]int{nil, {1}, {2}, {3}, {1, 2}, {2, 3}, {3, 1}, {3, 2, 1}} {
					asks(t, w, c, tid, others)
				}
			}
			for _, x := range all {
				_, q, _, _ := goes(t, w, c, x)
				if k := key(q); met[k] == 0 && depth < 6 {
					met[k] = 1
					further = append(further, q)
				}
			}
		}
		whole = further
	}
	if len(met) < 2000 {
		t.Error(len(met))
	}
}

// programs answers programs, short ones and long ones, and some that may not be.
func programs() [][]api.Insn {
	return [][]api.Insn{
		says(allowWord), says(errnoWord + 9), says(0x7ffc0001), only(0, 5, errnoWord+1), only(0, 63, 0x80000002), only(16, 5, errnoWord+3), only(4, api.ArchOne, 0x00030004), only(8, 9, 0),
		long(20, allowWord), long(64, errnoWord+7), long(40, 0x00010001), says(0x7fc00005), nil, long(65, 0), {in("ld.imm", 1)},
	}
}

// someTids answers up to four threads, mostly such as there are.
func someTids(next func(int) int, w told) []int {
	var l []int
	for range next(5) {
		l = append(l, someTid(next, w))
	}
	return l
}

// someTid answers a thread, mostly one that there is.
func someTid(next func(int) int, w told) int {
	there := slices.DeleteFunc(upTo(20), func(tid int) bool { return w.lacks(tid) })
	if len(there) == 0 || next(40) == 0 {
		return next(23) - 1
	}
	return there[next(len(there))]
}

// someAct answers a call, mostly one that leads on.
func someAct(next func(int) int, w told) act {
	tid := someTid(next, w)
	all := programs()
	switch next(12) {
	case 0, 1, 2:
		return attaches(tid, nil, 0, all[next(len(all))])
	case 3:
		return attaches(tid, someTids(next, w), flags[next(len(flags))], all[next(len(all))])
	case 4, 5:
		// All that are behind it, and now and then one more.
		var fit []int
		for _, other := range upTo(20) {
			if who, e := w.blocks(tid, []int{other}); who == 0 && e == api.OK {
				fit = append(fit, other)
			}
		}
		if next(4) == 0 {
			fit = append(fit, someTid(next, w))
		}
		return attaches(tid, fit, 1+next(2)*2, all[next(len(all))])
	case 6, 7, 8:
		return inherits(tid, next(22))
	case 9:
		return leaves(tid)
	case 10:
		return renames(tid, next(22))
	}
	may := w.cred[tid]
	may.Admin, may.NoNew, may.Uid = next(2) == 0, next(2) == 0, next(12)
	if next(4) == 0 {
		may.Mode = next(3)
	}
	return sets(tid, may)
}

func TestMixedCalls(t *testing.T) { // P15.1 to P15.7
	met := map[string]int{}
	most, none := 0, 0
	for seed := range uint64(35) {
		next := chance(seed)
		c := begun(t, 1+next(20))
		w := tell(c)
		for step := range 120 {
			x := someAct(next, w)
			was := c
			var a api.Answer
			var e api.Errno
			w, c, a, e = goes(t, w, c, x)
			met[x.name+" "+strconv.Itoa(int(e))]++
			if x.name == "Attach" && e == api.OK {
				met["Attach answers "+strconv.Itoa(int(a.Err))]++
				if a.Value != 0 {
					met["Attach is blocked"]++
				}
			}
			follows(t, was, c, x)
			if step%12 == 0 {
				tighter(t, was, c)
			}
			most = max(most, len(c.Pool.Nodes))
			if len(c.Guards) == 0 {
				none++
				c = begun(t, 1+next(20))
				w = tell(c)
			}
			if step%20 == 19 {
				tells(t, w, c)
				for range 20 {
					asks(t, w, c, someTid(next, w), someTids(next, w))
				}
			}
		}
		if honest, e := chain.Honest(c.Pool); !honest || e != api.OK {
			t.Fatalf("the bits of %v: %d", c, e)
		}
	}
	for k, least := range map[string]int{
		"Attach 0": 333, "Attach 4": 16, "Inherit 0": 166, "Inherit 2": 16, "Inherit 4": 16, "Inherit 5": 33, "Inherit 6": 33, "Leave 0": 166, "Leave 4": 3,
		"Rename 0": 100, "Rename 2": 16, "Rename 4": 3, "Rename 5": 33, "Set 0": 66, "Set 2": 33, "Set 4": 3,
		"Attach answers 0": 333, "Attach answers 21": 66, "Attach answers 23": 33, "Attach answers 25": 16, "Attach is blocked": 16,
	} {
		if met[k] < least {
			t.Errorf("%s: %d", k, met[k])
		}
	}
	if most < 24 || none < 5 {
		t.Error(most, none)
	}
}

func TestMixedCallsOfCagesWhoseBitsLie(t *testing.T) { // P15.1, P15.4 to P15.6
	by := 0
	for seed := range uint64(30) {
		next := chance(seed + 1000)
		c := begun(t, 1+next(20))
		for step := range 60 {
			// Bits are as they are handed in, and stay.
			for at := range c.Pool.Nodes {
				n := &c.Pool.Nodes[at]
				n.One ^= 1 << next(64)
				n.Two |= 1 << next(64)
			}
			w := tell(c)
			if step%6 == 5 {
				tells(t, w, c)
			}
			for _, g := range c.Guards {
				v, byBits, _ := attach.Verdict(c, g.Tid, api.Data{Nr: uint32(next(64)), Arch: api.ArchTwo})
				if byBits && v.Action == api.Allow {
					by++
				}
			}
			_, c, _, _ = goes(t, w, c, someAct(next, w))
			if len(c.Guards) == 0 {
				c = begun(t, 1+next(20))
			}
		}
	}
	if by < 100 {
		t.Error(by)
	}
}
