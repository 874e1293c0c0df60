package attach_test

import (
	"math"
	"slices"
	"testing"

	"wicketgate/api"
	"wicketgate/attach"
)

// checked holds Check of c against the chapter's words, and answers whether it may be.
func checked(t *testing.T, c api.Cage) bool {
	t.Helper()
	want := mayBe(c)
	if e := attach.Check(c); e != map[bool]api.Errno{true: api.OK, false: api.ErrCage}[want] {
		t.Fatalf("Check of %+v: %d, not %t", c, e, want)
	}
	return want
}

// family answers a cage: 2 has 3 1, 4 has 1, 5 has 3 1, 9 has none, 12 has 2, 14 is strict, 20 has 6 5 4 2.
func family(t *testing.T) api.Cage {
	t.Helper()
	if made.Guards == nil {
		made = makeFamily(t)
	}
	return twin(made)
}

// made is the family, once it has been asked for: to work its bits out takes long.
var made api.Cage

func makeFamily(t *testing.T) api.Cage {
	t.Helper()
	return plays(t, begun(t, 9, 2, 12, 14), sets(14, api.Cred{Uid: 3, NoNew: true, Mode: 1}),
		attaches(2, nil, 0, refuse), attaches(12, nil, 0, only(0, 5, errnoWord)), inherits(12, 20), inherits(2, 4), attaches(2, nil, 0, only(16, 5, 0)), inherits(2, 5),
		attaches(20, nil, 0, says(allowWord)), attaches(20, nil, 0, only(4, api.ArchOne, 0x7ffc0001)), attaches(20, nil, 0, long(9, allowWord)))
}

// breakages answers changes of a cage by which it may not be any more, or, where the words allow it, may.
func breakages() []func(c *api.Cage) {
	var l []func(c *api.Cage)
	for at := range 7 {
		for _, x := range []int{math.MinInt, -1 << 32, -21, -2, -1, 0, 1, 2, 3, 4, 5, 6, 7, 9, 10, 19, 20, 21, 24, 25, 1 << 32, 1<<32 + 1, math.MaxInt} {
			l = append(l,
				func(c *api.Cage) { c.Guards[at].Tid = x }, func(c *api.Cage) { c.Guards[at].Tid += x }, func(c *api.Cage) { c.Guards[at].Cred.Uid = x },
				func(c *api.Cage) { c.Guards[at].Cred.Mode = x }, func(c *api.Cage) { c.Guards[at].Head = x },
				func(c *api.Cage) { c.Guards[at].Head, c.Guards[at].Cred.Mode = x, 2 }, func(c *api.Cage) { c.Guards[at].Head, c.Guards[at].Cred.Mode = 0, x },
			)
			if at < 6 {
				l = append(l,
					func(c *api.Cage) { c.Pool.Nodes[at].Id = x }, func(c *api.Cage) { c.Pool.Nodes[at].Parent = x }, func(c *api.Cage) { c.Pool.Nodes[at].Size = x },
					func(c *api.Cage) { c.Pool.Nodes[at].Count = x }, func(c *api.Cage) { c.Pool.Nodes[at].Count += x }, func(c *api.Cage) { c.Pool.Nodes[at].One = uint64(x) },
				)
			}
		}
		l = append(l,
			func(c *api.Cage) { c.Guards[at].Cred.Admin = !c.Guards[at].Cred.Admin }, func(c *api.Cage) { c.Guards[at].Cred.NoNew = !c.Guards[at].Cred.NoNew },
			func(c *api.Cage) { c.Guards = slices.Delete(c.Guards, at, at+1) }, func(c *api.Cage) { c.Guards = slices.Insert(c.Guards, at, c.Guards[at]) },
			func(c *api.Cage) { c.Guards[at], c.Guards[(at+1)%7] = c.Guards[(at+1)%7], c.Guards[at] },
			func(c *api.Cage) {
				a, b := &c.Guards[at], &c.Guards[(at+1)%7]
				a.Head, b.Head, a.Cred, b.Cred = b.Head, a.Head, b.Cred, a.Cred
			},
		)
		if at < 6 {
			l = append(l,
				func(c *api.Cage) { c.Pool.Nodes = slices.Delete(c.Pool.Nodes, at, at+1) }, func(c *api.Cage) { c.Pool.Nodes[at].Program = nil },
				func(c *api.Cage) { c.Pool.Nodes[at].Program[0].Code = 0x94 }, func(c *api.Cage) { c.Pool.Nodes[at].Two ^= 1 << 63 },
			)
		}
	}
	return append(l,
		func(c *api.Cage) { c.Guards = nil }, func(c *api.Cage) { c.Pool.Nodes = nil }, func(c *api.Cage) { c.Guards, c.Pool.Nodes = nil, nil },
		func(c *api.Cage) {
			c.Pool.Nodes = append(c.Pool.Nodes, api.Node{Id: 7, Program: refuse, Size: 5, Count: 1})
		},
		func(c *api.Cage) {
			c.Pool.Nodes = append(c.Pool.Nodes, api.Node{Id: 8, Parent: 6, Program: refuse, Size: c.Pool.Nodes[5].Size + 5, Count: 1})
		},
		func(c *api.Cage) { c.Guards = append(c.Guards, api.Guard{Tid: 21}) },
	)
}

func TestCheckOfBrokenCages(t *testing.T) { // P15.1
	if c := family(t); !checked(t, c) || len(c.Guards) != 7 || len(c.Pool.Nodes) != 6 {
		t.Fatalf("%+v", c)
	}
	may, not := 0, 0
	for _, change := range breakages() {
		c := family(t)
		change(&c)
		if checked(t, c) {
			may++
		} else {
			not++
		}
	}
	if may < 150 || not < 1000 {
		t.Error(may, not)
	}
}

func TestCheckOfCagesBrokenTwice(t *testing.T) { // P15.1
	all := breakages()
	next := chance(3)
	whole := family(t)
	may := 0
	for range 40000 {
		c := twin(whole)
		all[next(len(all))](&c)
		if x := all[next(len(all))]; len(c.Guards) >= 7 && len(c.Pool.Nodes) >= 6 && !slices.ContainsFunc(c.Pool.Nodes, func(n api.Node) bool { return len(n.Program) == 0 }) {
			x(&c)
		}
		if checked(t, c) {
			may++
		}
	}
	if may < 500 {
		t.Error(may)
	}
}

func TestCheckOfAllSmallCages(t *testing.T) { // P15.1
	// Up to two filters, up to three guards; Heads, Parents and Counts of all kinds.
	var pools []api.Pool
	pools = append(pools, api.Pool{})
	for _, ids := range [][]int{{1}, {3}, {1, 2}, {2, 24}, {2, 1}, {1, 1}} {
		for parents := range 9 {
			for counts := range 25 {
				var p api.Pool
				for at, id := range ids {
					parent := []int{0, ids[0], ids[len(ids)-1]}[[]int{parents % 3, parents / 3}[at]]
					size := 5
					if parent != 0 {
						size = 10
					}
					p.Nodes = append(p.Nodes, api.Node{Id: id, Parent: parent, Program: refuse, Size: size, Count: []int{counts % 5, counts / 5}[at]})
				}
				pools = append(pools, p)
			}
		}
	}
	may := 0
	for _, p := range pools {
		for heads := range 125 {
			for many := range 4 {
				c := api.Cage{Pool: p}
				for at, head := range []int{heads % 5, heads / 5 % 5, heads / 25}[:many] {
					g := api.Guard{Tid: at*3 + 1, Cred: api.Cred{Mode: 2}, Head: []int{0, 1, 2, 3, 24}[head]}
					if g.Head == 0 {
						g.Cred.Mode = at % 2
					}
					c.Guards = append(c.Guards, g)
				}
				if checked(t, c) {
					may++
				}
			}
		}
	}
	if may < 300 {
		t.Error(may)
	}
}

func TestCheckOfManyGuards(t *testing.T) { // P15.1
	for _, from := range []int{0, 1, 2, 12, 13, 14} {
		for many := range 12 {
			var c api.Cage
			for at := range many {
				c.Guards = append(c.Guards, api.Guard{Tid: from + at, Cred: api.Cred{Uid: at % 10, Mode: at % 2}})
			}
			want := many == 0 || many <= 8 && from >= 1 && from+many-1 <= 20
			if is := checked(t, c); is != want {
				t.Errorf("%d guards from %d on: %t", many, from, is)
			}
		}
	}
	// Very many, and very many filters.
	if checked(t, api.Cage{Guards: make([]api.Guard, 1<<20)}) || checked(t, api.Cage{Pool: api.Pool{Nodes: make([]api.Node, 1<<20)}}) {
		t.Error("very many may be")
	}
	if !checked(t, api.Cage{}) || !checked(t, api.Cage{Guards: []api.Guard{}, Pool: api.Pool{Nodes: []api.Node{}}}) {
		t.Error("none may not be")
	}
	// 24 filters, of three threads.
	c := begun(t, 1, 2, 3)
	for at := range 24 {
		c = plays(t, c, attaches(at%3+1, nil, 0, says(uint32(at))))
	}
	if !checked(t, c) || len(c.Pool.Nodes) != 24 {
		t.Error(c)
	}
	c.Pool.Nodes = append(c.Pool.Nodes, api.Node{Id: 25, Program: refuse, Size: 5, Count: 1})
	c.Guards = append(c.Guards, api.Guard{Tid: 4, Cred: api.Cred{Mode: 2}, Head: 25})
	if checked(t, c) {
		t.Error("25 filters may be")
	}
}

func TestAllCallsOfCagesThatMayNotBe(t *testing.T) { // P15.1 to P15.6, R2
	for at, change := range breakages() {
		c := family(t)
		change(&c)
		if mayBe(c) {
			continue
		}
		before := twin(c)
		// ErrCage goes ahead of what is wrong with the other arguments, too.
		for _, tid := range []int{9, 2, 3, 21} {
			for _, x := range []act{
				attaches(tid, nil, 0, refuse), attaches(tid, []int{4, 1}, 1, refuse), attaches(tid, []int{4}, 3, nil), attaches(tid, []int{14}, 1, refuse), inherits(tid, 3), inherits(tid, 0), inherits(tid, 2),
				leaves(tid), renames(tid, 3), renames(tid, 21), sets(tid, api.Cred{Uid: 10}), sets(tid, api.Cred{Mode: 2}),
			} {
				if q, a, e := x.does(c); !alike(q, api.Cage{}) || a != (api.Answer{}) || e != api.ErrCage {
					t.Fatalf("%d: %s of %v: %v, %v, %d", at, x.name, c, q, a, e)
				}
			}
			if g, ok := attach.Of(c, tid); g != (api.Guard{}) || ok {
				t.Fatalf("%d: Of(%d) of %v: %v", at, tid, c, g)
			}
			for _, others := range [][]int{nil, {2, 4}, {14}, {3}} {
				if who, e := attach.Blocks(c, tid, others); who != 0 || e != api.ErrCage {
					t.Fatalf("%d: Blocks of %v: %d, %d", at, c, who, e)
				}
			}
			for _, d := range datas() {
				if v, byBits, e := attach.Verdict(c, tid, d); v != (api.Verdict{}) || byBits || e != api.ErrCage {
					t.Fatalf("%d: Verdict of %v: %v, %t, %d", at, c, v, byBits, e)
				}
			}
		}
		if !alike(c, before) {
			t.Fatalf("%d: %v has become %v", at, before, c)
		}
	}
}

func TestSame(t *testing.T) { // P15.1
	if !attach.Same(family(t), family(t)) || !attach.Same(api.Cage{}, api.Cage{Guards: []api.Guard{}, Pool: api.Pool{Nodes: []api.Node{}}}) {
		t.Error("the same are not the same")
	}
	// It is asked of cages that may not be, too; each field of each row counts.
	unlike := 0
	for at, change := range breakages() {
		c, whole := family(t), family(t)
		change(&c)
		want := alike(c, whole)
		if attach.Same(c, whole) != want || attach.Same(whole, c) != want {
			t.Errorf("%d: %v: not %t", at, c, want)
		}
		if !attach.Same(c, twin(c)) {
			t.Errorf("%d: %v is not the same as itself", at, c)
		}
		if !want {
			unlike++
		}
	}
	if unlike < 1000 {
		t.Error(unlike)
	}
	// Programs of none, nil or not.
	one := api.Cage{Pool: api.Pool{Nodes: []api.Node{{Id: 1}}}}
	other := api.Cage{Pool: api.Pool{Nodes: []api.Node{{Id: 1, Program: []api.Insn{}}}}}
	if !attach.Same(one, other) || !attach.Same(other, one) || attach.Same(one, api.Cage{}) || attach.Same(api.Cage{}, api.Cage{Guards: make([]api.Guard, 1)}) {
		t.Error("nil and empty programs")
	}
}
