package chain_test

import (
	"slices"
	"testing"

	"wicketgate/action"
	"wicketgate/api"
	"wicketgate/bitmap"
	"wicketgate/chain"
	"wicketgate/check"
	"wicketgate/insn"
	"wicketgate/vm"
)

// in answers the instruction of a name, with a K.
func in(name string, k uint32) api.Insn {
	code, ok := insn.Code(name)
	if !ok {
		panic(name)
	}
	return api.Insn{Code: code, K: k}
}

// test answers the test of a name.
func test(name string, k uint32, jt, jf uint8) api.Insn {
	x := in(name, k)
	x.Jt, x.Jf = jt, jf
	return x
}

// The words that filters of these tests return.
const (
	allowWord = 0x7fff0000
	errnoWord = 0x00050000
)

// says answers the program that returns a word alone.
func says(word uint32) []api.Insn {
	return []api.Insn{in("ret.k", word)}
}

// unless answers the program that returns the word of the number nr, and allows others.
func unless(nr, word uint32) []api.Insn {
	return []api.Insn{in("ld.abs", 0), test("jeq.k", nr, 0, 1), in("ret.k", word), in("ret.k", allowWord)}
}

// byArg answers the program that returns a word of Args[0] with the low half 5, and allows others.
func byArg(word uint32) []api.Insn {
	return []api.Insn{in("ld.abs", 16), test("jeq.k", 5, 0, 1), in("ret.k", word), in("ret.k", allowWord)}
}

// byArch answers the program that allows one architecture, and returns the word of others.
func byArch(arch, word uint32) []api.Insn {
	return []api.Insn{in("ld.abs", 4), test("jeq.k", arch, 1, 0), in("ret.k", word), in("ret.k", allowWord)}
}

// long answers a program of n instructions that returns the word.
func long(n int, word uint32) []api.Insn {
	return append(slices.Repeat([]api.Insn{in("ld.imm", 7)}, n-1), in("ret.k", word))
}

// deep answers p in new memory.
func deep(p api.Pool) api.Pool {
	q := api.Pool{Nodes: slices.Clone(p.Nodes)}
	for i := range q.Nodes {
		q.Nodes[i].Program = slices.Clone(q.Nodes[i].Program)
	}
	return q
}

// alike says whether both pools are the same.
func alike(a, b api.Pool) bool {
	if len(a.Nodes) != len(b.Nodes) {
		return false
	}
	for i, x := range a.Nodes {
		if !alikeRows(x, b.Nodes[i]) {
			return false
		}
	}
	return true
}

func alikeRows(a, b api.Node) bool {
	numbers := func(n api.Node) [6]uint64 {
		return [...]uint64{uint64(n.Id), uint64(n.Parent), uint64(n.Size), uint64(n.Count), n.One, n.Two}
	}
	return numbers(a) == numbers(b) && slices.Equal(a.Program, b.Program)
}

// mayBe says whether p may be, clause by clause as the chapter's words tell it.
func mayBe(p api.Pool) bool {
	byId := map[int]api.Node{}
	least := 1
	for _, n := range p.Nodes {
		if n.Id < least || n.Id > 24 {
			return false
		}
		least = n.Id + 1
		byId[n.Id] = n
	}
	referrers := map[int]int{}
	for _, n := range p.Nodes {
		referrers[n.Parent]++
	}
	for _, n := range p.Nodes {
		if _, e := check.Check(n.Program); e != api.OK {
			return false
		}
		parent, there := byId[n.Parent]
		if n.Parent != 0 && !there {
			return false
		}
		ofParent := 0
		if n.Parent != 0 {
			ofParent = parent.Size
		}
		if n.Size != len(n.Program)+4+ofParent || n.Size > 256 {
			return false
		}
		if n.Count < 1 || n.Count < referrers[n.Id] {
			return false
		}
		// From each one the Parents lead to 0: in no more steps than there are filters.
		at := n.Id
		for range len(p.Nodes) {
			at = byId[at].Parent
		}
		if at != 0 {
			return false
		}
	}
	return true
}

// told is a pool as the tests go along with it: filters by their Ids.
type told map[int]api.Node

// tell answers the filters of a pool that may be.
func tell(p api.Pool) told {
	w := told{}
	for _, n := range deep(p).Nodes {
		w[n.Id] = n
	}
	return w
}

// pool answers the pool of the filters, by rising Ids.
func (w told) pool() api.Pool {
	var p api.Pool
	for id := 1; id <= 24; id++ {
		if n, there := w[id]; there {
			p.Nodes = append(p.Nodes, n)
		}
	}
	return deep(p)
}

func (w told) children(id int) int {
	count := 0
	for _, n := range w {
		if n.Parent == id {
			count++
		}
	}
	return count
}

// add adds as the chapter's words tell it.
func (w told) add(parent int, program []api.Insn) (int, api.Errno) {
	if _, e := check.Check(program); e != api.OK {
		return 0, e
	}
	ahead, there := w[parent]
	if parent != 0 && !there {
		return 0, api.ErrNone
	}
	n := api.Node{Parent: parent, Program: slices.Clone(program), Size: ahead.Size + 4 + len(program), Count: 1}
	if n.Size > 256 || len(w) >= 24 {
		return 0, api.ENOMEM
	}
	for n.Id = 1; w[n.Id].Id != 0; n.Id++ {
	}
	for nr := uint32(0); nr < 64; nr++ {
		if ok, _ := bitmap.Allows(program, nr, 0xc000003e); ok {
			n.One += 1 << nr
		}
		if ok, _ := bitmap.Allows(program, nr, 0x40000003); ok {
			n.Two += 1 << nr
		}
	}
	w[n.Id] = n
	return n.Id, api.OK
}

func (w told) take(id int) api.Errno {
	n, there := w[id]
	if !there {
		return api.ErrNone
	}
	n.Count++
	w[id] = n
	return api.OK
}

func (w told) give(id int) ([]int, api.Errno) {
	n, there := w[id]
	if !there || n.Count <= w.children(id) {
		return nil, api.ErrNone
	}
	return w.giveBack(id), api.OK
}

// giveBack gives one reference to id back, if it is not 0.
func (w told) giveBack(id int) []int {
	n, there := w[id]
	if !there {
		return nil
	}
	n.Count--
	w[id] = n
	if n.Count > 0 {
		return nil
	}
	delete(w, id)
	return append([]int{id}, w.giveBack(n.Parent)...)
}

func (w told) chain(id int) ([]int, api.Errno) {
	if id == 0 {
		return nil, api.OK
	}
	n, there := w[id]
	if !there {
		return nil, api.ErrNone
	}
	more, _ := w.chain(n.Parent)
	return append([]int{id}, more...), api.OK
}

// eval answers the verdict: of each action in turn, the most restrictive one first, that of the newest filter that says it.
func (w told) eval(id int, d api.Data) (api.Verdict, api.Errno) {
	l, e := w.chain(id)
	if e != api.OK {
		return api.Verdict{}, e
	}
	for act := 0; act <= 7; act++ {
		for _, one := range l {
			word, _ := vm.Run(w[one].Program, d)
			if v := action.Split(word); v.Action == act {
				return v, api.OK
			}
		}
	}
	return api.Verdict{Action: 7}, api.OK
}

func (w told) fast(id int, nr, arch uint32) (bool, api.Errno) {
	l, e := w.chain(id)
	if e != api.OK {
		return false, e
	}
	all := ^uint64(0)
	for _, one := range l {
		switch arch {
		case 0xc000003e:
			all &= w[one].One
		case 0x40000003:
			all &= w[one].Two
		}
	}
	if arch != 0xc000003e && arch != 0x40000003 || nr > 63 {
		return false, api.OK
	}
	return all&(1<<nr) != 0, api.OK
}

// some answers data, of which filters of these tests say one thing or another.
func some() []api.Data {
	return []api.Data{
		{}, {Nr: 5, Arch: api.ArchOne}, {Nr: 5, Arch: api.ArchTwo}, {Nr: 63, Arch: api.ArchOne, Args: [6]uint64{5}},
		{Nr: 64, Arch: api.ArchTwo, Args: [6]uint64{1<<32 + 5}}, {Nr: 1 << 31, Arch: 7, Ip: 9},
	}
}

// asks asks all that changes nothing of the pool p, of an Id, and holds it against w.
func (w told) asks(t *testing.T, p api.Pool, id int) {
	t.Helper()
	n, there := chain.Find(p, id)
	if want, is := w[id]; there != is || !alikeRows(n, want) {
		t.Fatalf("Find(%d): %+v, %t, not %+v", id, n, there, want)
	}
	want, wantError := w.chain(id)
	if l, e := chain.Chain(p, id); !slices.Equal(l, want) || e != wantError {
		t.Fatalf("Chain(%d): %v, %d, not %v, %d", id, l, e, want, wantError)
	}
	for old := -1; old <= 26; old++ {
		wanted := wantError == api.OK && (old == 0 || slices.Contains(want, old))
		if is, e := chain.Above(p, old, id); is != wanted || e != wantError {
			t.Fatalf("Above(%d, %d): %t, %d, not %t, %d", old, id, is, e, wanted, wantError)
		}
	}
	for _, d := range some() {
		want, wantError := w.eval(id, d)
		if v, e := chain.Eval(p, id, d); v != want || e != wantError {
			t.Fatalf("Eval(%d, %+v): %v, %d, not %v, %d", id, d, v, e, want, wantError)
		}
		for _, nr := range []uint32{d.Nr, 5, 63} {
			want, wantError := w.fast(id, nr, d.Arch)
			if is, e := chain.Fast(p, id, nr, d.Arch); is != want || e != wantError {
				t.Fatalf("Fast(%d, %d, %#x): %t, %d, not %t, %d", id, nr, d.Arch, is, e, want, wantError)
			}
		}
	}
}

// chance answers a function that answers numbers below n, mixed by the seed.
func chance(seed uint64) func(n int) int {
	return func(n int) int {
		seed = seed*6364136223846793005 + 1442695040888963407
		return int(seed >> 33 % uint64(n))
	}
}

// must answers what Add answers where nothing is wrong.
func must(t *testing.T, p api.Pool, parent int, program []api.Insn) (api.Pool, int) {
	t.Helper()
	q, id, e := chain.Add(p, parent, program)
	if e != api.OK {
		t.Fatalf("Add(%d) of %d instructions: %d", parent, len(program), e)
	}
	return q, id
}

// family answers a pool: 1 stands alone; 2 behind 1, 3 and 4 behind 2, 5 behind 4; 6 alone. 2 and 6 have a reference beside.
func family(t *testing.T) api.Pool {
	t.Helper()
	if made.Nodes == nil {
		made = makeFamily(t)
	}
	return deep(made)
}

// made is the family, once it has been asked for: to work its bits out takes long.
var made api.Pool

func makeFamily(t *testing.T) api.Pool {
	t.Helper()
	var p api.Pool
	for _, q := range []struct {
		parent  int
		program []api.Insn
	}{{0, says(allowWord)}, {1, unless(5, errnoWord+1)}, {2, byArg(errnoWord + 2)}, {2, byArch(api.ArchOne, errnoWord+3)}, {4, unless(63, 0)}, {0, long(64, allowWord)}} {
		if slices.ContainsFunc(p.Nodes, func(n api.Node) bool { return n.Parent == q.parent }) && q.parent != 0 {
			// Whoever adds has a reference of the Parent: it is the new one's then.
			p, _ = chain.Take(p, q.parent)
		}
		p, _ = must(t, p, q.parent, q.program)
	}
	for _, id := range []int{2, 6} {
		p, _ = chain.Take(p, id)
	}
	if !mayBe(p) || len(p.Nodes) != 6 {
		t.Fatalf("%+v", p)
	}
	return p
}
