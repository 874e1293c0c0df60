package chain_test

import (
	"math"
	"slices"
	"testing"

	"wicketgate/api"
	"wicketgate/chain"
)

// checked holds Check of p against the chapter's words, and answers whether it may be.
func checked(t *testing.T, p api.Pool) bool {
	t.Helper()
	want := mayBe(p)
	if e := chain.Check(p); e != map[bool]api.Errno{true: api.OK, false: api.ErrPool}[want] {
		t.Fatalf("Check of %+v: %d, not %t", p, e, want)
	}
	return want
}

// breakages answers changes of a pool's row by which it may not be any more, or, where the words allow it, may.
func breakages() []func(n *api.Node) {
	var l []func(n *api.Node)
	far := []int{math.MinInt, -1 << 32, -25, -2, -1, 1, 2, 3, 4, 5, 24, 25, 26, 1 << 32, math.MaxInt}
	for x := range 30 {
		far = append(far, x, x-30)
	}
	for _, x := range far {
		l = append(l,
			func(n *api.Node) { n.Id = x }, func(n *api.Node) { n.Id += x },
			func(n *api.Node) { n.Parent = x }, func(n *api.Node) { n.Parent += x },
			func(n *api.Node) { n.Size = x }, func(n *api.Node) { n.Size += x },
			func(n *api.Node) { n.Count = x }, func(n *api.Node) { n.Count += x },
			func(n *api.Node) { n.One, n.Two = uint64(x), n.One },
		)
	}
	for _, program := range [][]api.Insn{nil, {}, says(5), long(64, 0), long(65, 0), {in("ld.imm", 1)}, {{Code: 0x94}}, {in("ja", 1), in("ret.a", 0)}, {in("ld.abs", 2), in("ret.a", 0)}} {
		l = append(l, func(n *api.Node) { n.Program = program })
	}
	return l
}

func TestCheckOfBrokenPools(t *testing.T) { // P9.1
	may, not := 0, 0
	for at := range 6 {
		for _, change := range breakages() {
			p := family(t)
			change(&p.Nodes[at])
			if checked(t, p) {
				may++
			} else {
				not++
			}
		}
	}
	if may < 100 || not < 1000 {
		t.Error(may, not)
	}
}

func TestCheckOfAllSmallPools(t *testing.T) { // P9.1
	program := says(allowWord)
	var rows []api.Node
	for parent := range 5 {
		for _, size := range []int{0, 5, 10, 15, 20} {
			for count := range 4 {
				rows = append(rows, api.Node{Parent: parent, Program: program, Size: size, Count: count})
			}
		}
	}
	may := map[int]int{}
	for _, ids := range [][]int{{}, {1}, {3}, {1, 2}, {2, 3}, {4, 1}, {2, 2}} {
		var lay func(l []api.Node)
		lay = func(l []api.Node) {
			if len(l) == len(ids) {
				if checked(t, api.Pool{Nodes: l}) {
					may[len(l)]++
				}
				return
			}
			for _, n := range rows {
				n.Id = ids[len(l)]
				lay(append(l, n))
			}
		}
		lay(nil)
	}
	// One: alone, Count 1 to 3. Two rows that rise: both alone; each the other one's Parent.
	if may[0] != 1 || may[1] != 6 || may[2] != 2*(9+9+9) {
		t.Error(may)
	}
}

func TestCheckOfParentsThatGoRound(t *testing.T) { // P9.1
	program := says(allowWord)
	sizes := []int{math.MinInt, math.MinInt + 5, -10, -5, 0, 5, 10, 15, 256, math.MaxInt - 4, math.MaxInt}
	for parents := range 64 {
		for _, a := range sizes {
			for _, b := range sizes {
				for _, c := range sizes {
					checked(t, api.Pool{Nodes: []api.Node{
						{Id: 1, Parent: parents % 4, Program: program, Size: a, Count: 3},
						{Id: 2, Parent: parents / 4 % 4, Program: program, Size: b, Count: 3},
						{Id: 3, Parent: parents / 16, Program: program, Size: c, Count: 3},
					}})
				}
			}
		}
	}
	// One that is its own Parent, whatever its Size says.
	for size := -600; size < 600; size++ {
		if checked(t, api.Pool{Nodes: []api.Node{{Id: 1, Parent: 1, Program: program, Size: size, Count: 1}}}) {
			t.Errorf("with the Size %d", size)
		}
	}
}

func TestCheckAtTheLimits(t *testing.T) { // P9.1
	var full api.Pool
	for id := 1; id <= 24; id++ {
		full.Nodes = append(full.Nodes, api.Node{Id: id, Program: says(0), Size: 5, Count: 1})
	}
	if !checked(t, full) {
		t.Error("24 filters")
	}
	full.Nodes = append(full.Nodes, api.Node{Id: 25, Program: says(0), Size: 5, Count: 1})
	if checked(t, full) {
		t.Error("25 filters")
	}
	// The Ids go upwards, and the Parents may go any way.
	lead := []api.Node{{Id: 1, Parent: 24, Program: long(64, 0), Size: 256, Count: 1}, {Id: 7, Program: long(64, 0), Size: 68, Count: 1}, {Id: 23, Parent: 7, Program: long(64, 0), Size: 136, Count: 1}, {Id: 24, Parent: 23, Program: long(48, 0), Size: 188, Count: 1}}
	if !checked(t, api.Pool{Nodes: lead}) {
		t.Error("a chain of 256")
	}
	lead[3] = api.Node{Id: 24, Parent: 23, Program: long(49, 0), Size: 189, Count: 1}
	lead[0].Size = 257
	if checked(t, api.Pool{Nodes: lead}) {
		t.Error("a chain of 257")
	}
	if !checked(t, api.Pool{}) || !checked(t, api.Pool{Nodes: []api.Node{}}) {
		t.Error("a pool of none")
	}
	if checked(t, api.Pool{Nodes: make([]api.Node, 1000)}) {
		t.Error("a pool of zero ones")
	}
	many := api.Pool{Nodes: []api.Node{{Id: 3, Program: says(0), Size: 5, Count: math.MaxInt}}}
	if !checked(t, many) {
		t.Error("many who refer to it")
	}
}

func TestAllCallsOfPoolsThatMayNotBe(t *testing.T) { // P9.1 to P9.5, R2
	for at := range 6 {
		for _, change := range breakages() {
			p := family(t)
			change(&p.Nodes[at])
			if mayBe(p) {
				continue
			}
			before := deep(p)
			// ErrPool goes ahead of what is wrong with the other arguments, too.
			for _, id := range []int{0, 1, 2, 5, 6, 7, -1} {
				refused(t, p, id)
			}
			if !alike(p, before) {
				t.Fatalf("%+v has become %+v", before, p)
			}
		}
	}
}

// refused fails the test, if a call of p, which may not be, tells anything but ErrPool.
func refused(t *testing.T, p api.Pool, id int) {
	t.Helper()
	for _, program := range [][]api.Insn{says(0), nil} {
		if q, new, e := chain.Add(p, id, program); len(q.Nodes) != 0 || new != 0 || e != api.ErrPool {
			t.Fatalf("Add(%d) to %+v: %+v, %d, %d", id, p, q, new, e)
		}
	}
	if q, e := chain.Take(p, id); len(q.Nodes) != 0 || e != api.ErrPool {
		t.Fatalf("Take(%d) of %+v: %+v, %d", id, p, q, e)
	}
	if q, gone, e := chain.Give(p, id); len(q.Nodes) != 0 || len(gone) != 0 || e != api.ErrPool {
		t.Fatalf("Give(%d) of %+v: %+v, %v, %d", id, p, q, gone, e)
	}
	if n, there := chain.Find(p, id); !alikeRows(n, api.Node{}) || there {
		t.Fatalf("Find(%d) of %+v: %+v", id, p, n)
	}
	if l, e := chain.Chain(p, id); len(l) != 0 || e != api.ErrPool {
		t.Fatalf("Chain(%d) of %+v: %v, %d", id, p, l, e)
	}
	for _, old := range []int{0, id, 1} {
		if is, e := chain.Above(p, old, id); is || e != api.ErrPool {
			t.Fatalf("Above(%d, %d) of %+v: %t, %d", old, id, p, is, e)
		}
	}
	if v, e := chain.Eval(p, id, api.Data{}); v != (api.Verdict{}) || e != api.ErrPool {
		t.Fatalf("Eval(%d) of %+v: %v, %d", id, p, v, e)
	}
	if is, e := chain.Fast(p, id, 5, api.ArchOne); is || e != api.ErrPool {
		t.Fatalf("Fast(%d) of %+v: %t, %d", id, p, is, e)
	}
	if is, e := chain.Honest(p); is || e != api.ErrPool {
		t.Fatalf("Honest of %+v: %t, %d", p, is, e)
	}
}

func TestSame(t *testing.T) { // P9.1
	if !chain.Same(family(t), family(t)) || !chain.Same(api.Pool{}, api.Pool{Nodes: []api.Node{}}) {
		t.Error("the same are not the same")
	}
	// It is asked of pools that may not be, too; each field of each row counts.
	for at := range 6 {
		for i, change := range breakages() {
			p := family(t)
			change(&p.Nodes[at])
			if is := chain.Same(p, family(t)); is != alike(p, family(t)) {
				t.Errorf("row %d, change %d: %t", at, i, is)
			}
			if is := chain.Same(family(t), p); is != alike(p, family(t)) {
				t.Errorf("row %d, change %d, the other way round: %t", at, i, is)
			}
			if !chain.Same(p, deep(p)) {
				t.Errorf("row %d, change %d: not the same as itself", at, i)
			}
		}
	}
	for _, change := range []func(n *api.Node){
		func(n *api.Node) { n.One ^= 1 }, func(n *api.Node) { n.One ^= 1 << 63 }, func(n *api.Node) { n.Two ^= 1 }, func(n *api.Node) { n.Two ^= 1 << 63 },
		func(n *api.Node) { n.Program[0].K ^= 1 }, func(n *api.Node) { n.Program[0].Jt ^= 1 }, func(n *api.Node) { n.Program = n.Program[1:] },
		func(n *api.Node) { n.Program = append(n.Program, api.Insn{}) },
	} {
		for at := range 6 {
			p := family(t)
			change(&p.Nodes[at])
			if chain.Same(p, family(t)) || chain.Same(family(t), p) {
				t.Errorf("row %d: %+v", at, p.Nodes[at])
			}
		}
	}
	for _, q := range []func(l []api.Node) []api.Node{
		func(l []api.Node) []api.Node { return l[1:] }, func(l []api.Node) []api.Node { return l[:5] }, func(l []api.Node) []api.Node { return nil },
		func(l []api.Node) []api.Node { l[0], l[1] = l[1], l[0]; return l }, func(l []api.Node) []api.Node { return append(l, l[5]) },
	} {
		p := family(t)
		p.Nodes = q(p.Nodes)
		if chain.Same(p, family(t)) || chain.Same(family(t), p) || !chain.Same(p, deep(p)) {
			t.Errorf("%+v", p)
		}
	}
	// Programs of none, nil or not.
	one := api.Pool{Nodes: []api.Node{{Id: 1}}}
	other := api.Pool{Nodes: []api.Node{{Id: 1, Program: []api.Insn{}}}}
	if !chain.Same(one, other) || !chain.Same(other, one) {
		t.Error("nil and empty programs")
	}
}

func TestHonest(t *testing.T) { // P9.1
	for _, p := range []api.Pool{{}, family(t)} {
		if is, e := chain.Honest(p); !is || e != api.OK {
			t.Errorf("%+v: %t, %d", p, is, e)
		}
	}
	for at := range 6 {
		for bit := range 64 {
			for _, change := range []func(n *api.Node){func(n *api.Node) { n.One ^= 1 << bit }, func(n *api.Node) { n.Two ^= 1 << bit }} {
				if at != bit%6 && bit%31 > 0 {
					continue
				}
				p := family(t)
				change(&p.Nodes[at])
				if is, e := chain.Honest(p); is || e != api.OK {
					t.Errorf("row %d, bit %d: %t, %d", at, bit, is, e)
				}
			}
		}
	}
	// Bits of one architecture do not do for the other one.
	p := family(t)
	n := &p.Nodes[3]
	if n.One == n.Two {
		t.Fatal(n)
	}
	n.One, n.Two = n.Two, n.One
	if is, e := chain.Honest(p); is || e != api.OK {
		t.Errorf("turned round: %t, %d", is, e)
	}
}

func TestFind(t *testing.T) { // P9.1
	p := family(t)
	for _, id := range []int{math.MinInt, -1, 0, 7, 8, 24, 25, 1<<32 + 1, math.MaxInt} {
		if n, there := chain.Find(p, id); there || !alikeRows(n, api.Node{}) || n.Program != nil {
			t.Errorf("Find(%d): %+v, %t", id, n, there)
		}
	}
	for i, want := range p.Nodes {
		n, there := chain.Find(p, i+1)
		if !there || !alikeRows(n, want) {
			t.Errorf("Find(%d): %+v, %t", i+1, n, there)
		}
		// What is answered is new memory.
		for j := range n.Program {
			n.Program[j] = api.Insn{Code: 0x94}
		}
		if !alike(p, family(t)) {
			t.Fatalf("Find(%d) hands the pool's program out", i+1)
		}
	}
	if _, there := chain.Find(api.Pool{}, 0); there {
		t.Error("a filter of none")
	}
	if n, there := chain.Find(api.Pool{Nodes: slices.Insert(p.Nodes, 0, api.Node{})}, 0); there || !alikeRows(n, api.Node{}) {
		t.Error("a filter 0")
	}
}
