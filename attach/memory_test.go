package attach_test

import (
	"slices"
	"testing"

	"wicketgate/api"
	"wicketgate/attach"
)

// some answers a cage that comes of that many mixed calls.
func some(t *testing.T, next func(int) int, many int) api.Cage {
	t.Helper()
	c := begun(t, 1+next(20))
	for range many {
		w := tell(c)
		if _, q, _, _ := goes(t, w, c, someAct(next, w)); len(q.Guards) > 0 {
			c = q
		}
	}
	return c
}

// room is the lists of a cage, each to its very end.
type room struct {
	guards   []api.Guard
	nodes    []api.Node
	programs [][]api.Insn
}

// roomy answers c in lists with room behind their ends, and all of that room.
func roomy(c api.Cage) (api.Cage, room) {
	r := room{guards: slices.Concat(c.Guards, []api.Guard{{Tid: 20, Head: 7}, {Tid: -5}})}
	for _, n := range c.Pool.Nodes {
		p := slices.Concat(n.Program, []api.Insn{{Code: 9}, {Code: 8}})
		r.programs = append(r.programs, p)
		n.Program = p[:len(n.Program)]
		r.nodes = append(r.nodes, n)
	}
	r.nodes = append(r.nodes, api.Node{Id: 24, Count: 3}, api.Node{Id: -1})
	return api.Cage{Pool: api.Pool{Nodes: r.nodes[:len(c.Pool.Nodes)]}, Guards: r.guards[:len(c.Guards)]}, r
}

// whole answers the lists as a cage, in new memory.
func (r room) whole() api.Cage {
	c := api.Cage{Guards: r.guards, Pool: api.Pool{Nodes: slices.Clone(r.nodes)}}
	for _, p := range r.programs {
		c.Pool.Nodes = append(c.Pool.Nodes, api.Node{Program: p})
	}
	return twin(c)
}

// spoil writes into all lists of c, and into the room behind their ends.
func spoil(c api.Cage) {
	for _, n := range c.Pool.Nodes {
		clear(n.Program[:cap(n.Program)])
	}
	clear(c.Pool.Nodes[:cap(c.Pool.Nodes)])
	clear(c.Guards[:cap(c.Guards)])
}

func TestWhatIsHandedInStays(t *testing.T) { // P15.1 to P15.6, R3
	next := chance(5)
	for range 20 {
		plain := some(t, next, 40)
		w := tell(plain)
		c, r := roomy(plain)
		before := r.whole()
		tells(t, w, c)
		asks(t, w, c, someTid(next, w), someTids(next, w))
		if !checked(t, c) || !attach.Same(c, plain) || !attach.Same(plain, c) {
			t.Fatalf("%v: the room behind an end is asked", plain)
		}
		for range 30 {
			x := someAct(next, w)
			_, q, _, e := goes(t, w, c, x)
			if !alike(r.whole(), before) {
				t.Fatalf("%s of %v: what was handed in has changed", x.name, plain)
			}
			if e != api.OK {
				continue
			}
			// What is answered shares nothing with what was handed in, nor with what is answered next.
			want := twin(q)
			again, _, _ := x.does(c)
			spoil(again)
			if !alike(r.whole(), before) || !alike(q, want) {
				t.Fatalf("%s of %v: the answer is not new memory", x.name, plain)
			}
			// What goes on from it leaves it as it is.
			on := tell(q)
			for range 3 {
				goes(t, on, q, someAct(next, on))
			}
			if !alike(q, want) || !alike(r.whole(), before) {
				t.Fatalf("%s of %v: the answer has changed: %v", x.name, plain, q)
			}
		}
	}
}

func TestProgramsAreNotKept(t *testing.T) { // P15.2, P15.4, R3
	c := begun(t, 1, 2)
	row := slices.Concat(only(0, 5, errnoWord), []api.Insn{{Code: 7}, {Code: 8}})
	kept := slices.Clone(row)
	others := []int{2, 1, 2, 7, 9}
	q, a, e := attach.Attach(c, 1, others[:3], api.FlagSync, row[:4])
	if a != (api.Answer{}) || e != api.OK || !slices.Equal(row, kept) || !slices.Equal(others, []int{2, 1, 2, 7, 9}) {
		t.Fatal(a, e, row, others)
	}
	clear(row)
	if want := tell(q).list(2); !slices.Equal(want[0].program, kept[:4]) || q.Guards[0].Head != 1 || q.Guards[1].Head != 1 {
		t.Errorf("%v", q)
	}
	if who, e := attach.Blocks(q, 1, others[:3]); who != 0 || e != api.OK || !slices.Equal(others, []int{2, 1, 2, 7, 9}) {
		t.Error(who, e, others)
	}
	b := slices.Concat(bytesOf(kept[:4]), []byte{7, 8, 9})
	whole := slices.Clone(b)
	p, e := attach.Prepare(0, b[:32], api.Cred{Admin: true})
	if !slices.Equal(p, kept[:4]) || e != api.OK || !slices.Equal(b, whole) {
		t.Fatal(p, e, b)
	}
	clear(b)
	if !slices.Equal(p, kept[:4]) {
		t.Error(p)
	}
	// What is answered where nothing has changed is new memory, too.
	same, a, _ := attach.Attach(q, 1, nil, 0, nil)
	spoil(same)
	if want := (api.Answer{Err: api.EINVAL}); a != want || attach.Check(q) != api.OK {
		t.Errorf("%v, %v", a, q)
	}
}

func TestNilAndEmptyListsAreOne(t *testing.T) { // R3
	for _, c := range []api.Cage{{}, {Guards: []api.Guard{}}, {Pool: api.Pool{Nodes: []api.Node{}}}, begun(t, 3), {Guards: begun(t, 3).Guards, Pool: api.Pool{Nodes: []api.Node{}}}} {
		w := tell(c)
		tells(t, w, c)
		for _, others := range [][]int{nil, {}} {
			asks(t, w, c, 3, others)
			goes(t, w, c, attaches(3, others, 1, refuse))
			goes(t, w, c, attaches(3, others, 0, []api.Insn{}))
		}
		for _, x := range []act{inherits(3, 4), leaves(3), renames(3, 5), sets(3, api.Cred{Uid: 1})} {
			goes(t, w, c, x)
		}
	}
	for _, b := range [][]byte{nil, {}} {
		if p, e := attach.Prepare(0, b, api.Cred{Admin: true}); len(p) != 0 || e != api.EINVAL {
			t.Error(p, e)
		}
	}
}
