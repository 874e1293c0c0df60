package steps_test

import (
	"slices"
	"testing"

	"wicketgate/api"
	"wicketgate/steps"
)

// room is the lists of a schedule, each to its very end.
type room struct {
	runs   []api.Run
	locks  []api.Lock
	queues [][]int
}

// roomy answers s in lists with room behind their ends, and all of that room.
func roomy(s api.Sched) (api.Sched, room) {
	var r room
	queue := func(l []int) []int {
		wide := slices.Concat(l, []int{-7, -8, -9})
		r.queues = append(r.queues, wide)
		return wide[:len(l)]
	}
	r.runs = slices.Concat(s.Runs, []api.Run{ready(-4), over(-5)})
	for _, l := range s.Locks {
		l.Queue = queue(l.Queue)
		r.locks = append(r.locks, l)
	}
	r.locks = append(r.locks, lock(-6, -6), lock(-7, -7))
	return sched(r.locks[:len(s.Locks)], r.runs[:len(s.Runs)]...), r
}

// whole answers the lists as a schedule, in new memory.
func (r room) whole() api.Sched {
	s := api.Sched{Runs: r.runs, Locks: slices.Clone(r.locks)}
	for _, l := range r.queues {
		s.Locks = append(s.Locks, api.Lock{Queue: l})
	}
	return twin(s)
}

// fill writes into a list, and into the room behind its end.
func fill(l []int) {
	for at := range l[:cap(l)] {
		l[:cap(l)][at] = -1
	}
}

// fillAll does so with all lists of s.
func fillAll(s api.Sched) {
	for _, l := range s.Locks {
		fill(l.Queue)
	}
	clear(s.Runs[:cap(s.Runs)])
	clear(s.Locks[:cap(s.Locks)])
}

func TestMemory(t *testing.T) { // P13.2 to P13.4, R3
	next := chance(15)
	for range 300 {
		whole := some(next).sched()
		for _, c := range calls() {
			for range 12 {
				id, n := next(21), next(41)
				if len(whole.Runs) > 0 && next(3) > 0 {
					id = whole.Runs[next(len(whole.Runs))].Id
				}
				if len(whole.Locks) > 0 && next(3) > 0 {
					n = whole.Locks[next(len(whole.Locks))].Number
				}
				apart(t, c, whole, id, n)
			}
		}
		s, r := roomy(whole)
		before := r.whole()
		fill(steps.Ready(s))
		for id := range 21 {
			fill(steps.Owns(s, id))
		}
		if !alike(r.whole(), before) {
			t.Fatalf("what is told of %v is not new memory", whole)
		}
	}
}

// apart holds it of a call that what it is handed, what it answers, and all lists of that share no memory.
func apart(t *testing.T, c call, whole api.Sched, id, lock int) {
	t.Helper()
	s, r := roomy(whole)
	before := r.whole()
	one, _, _ := c.do(s, id, lock)
	two, _, _ := c.do(s, id, lock)
	want := twin(one)
	fillAll(two)
	if !alike(r.whole(), before) || !alike(one, want) {
		t.Fatalf("%s(%d, %d) of %v: what was handed in, or the other answer, has changed", c.name, id, lock, whole)
	}
	fillAll(api.Sched{Runs: r.runs, Locks: r.locks})
	if !alike(one, want) {
		t.Fatalf("%s(%d, %d) of %v: the answer has changed: %v", c.name, id, lock, whole, one)
	}
	for at := range one.Locks {
		fill(one.Locks[at].Queue)
		for to, l := range one.Locks {
			if to > at && !slices.Equal(l.Queue, want.Locks[to].Queue) {
				t.Fatalf("%s(%d, %d) of %v: two Queues share memory", c.name, id, lock, whole)
			}
		}
	}
}

func TestSame(t *testing.T) { // P13.1
	var l []api.Sched
	for _, runs := range [][]api.Run{nil, {ready(1)}, {ready(2)}, {over(1)}, {waits(1, 0)}, {waits(1, 1)}, {waits(1, 2)}, {{Id: 1, Wants: 1}}, {ready(1), ready(2)}, {ready(2), ready(1)}, {ready(1), ready(1)}, {{}}} {
		for _, locks := range [][]api.Lock{nil, {lock(1, 1)}, {lock(2, 1)}, {lock(1, 2)}, {lock(1, 1, 1)}, {lock(1, 1, 2)}, {lock(1, 1, 2, 3)}, {lock(1, 1, 3, 2)}, {lock(1, 1), lock(2, 1)}, {lock(2, 1), lock(1, 1)}, {lock(1, 1), lock(1, 1)}, {lock(1, 1), lock(1, 1, 2)}, {lock(1, 1, 2), lock(1, 1)}, {{}}} {
			l = append(l, sched(locks, runs...))
		}
	}
	for i, a := range l {
		for j, b := range l {
			if is := steps.Same(a, twin(b)); is != (i == j) {
				t.Errorf("Same of %v and %v: %t", a, b, is)
			}
		}
		if x, _ := roomy(a); !steps.Same(x, a) || !steps.Same(a, x) {
			t.Errorf("%v: the room behind an end is asked", a)
		}
	}
	one, two := sched([]api.Lock{{Number: 1, Queue: []int{}}}, ready(1)), sched([]api.Lock{{Number: 1}}, ready(1))
	if !steps.Same(one, two) || !steps.Same(two, one) || !steps.Same(api.Sched{}, api.Sched{Runs: []api.Run{}, Locks: []api.Lock{}}) {
		t.Error("nil and empty are one")
	}
}

func TestNilAndEmptyAreOne(t *testing.T) { // P13.1 to P13.4, R3
	holds(t, told{}, []int{-1, 0, 1, 20, 21}, []int{0, 1, 40, 41})
	for _, s := range []api.Sched{{}, {Runs: []api.Run{}, Locks: []api.Lock{}}} {
		if x, e := steps.Add(s, 5); !alike(x, sched(nil, ready(5))) || e != api.OK {
			t.Error(x, e)
		}
		if id, ok := steps.Pick(s, 0); steps.Check(s) != api.OK || steps.Stuck(s) || len(steps.Ready(s)) != 0 || id != 0 || ok {
			t.Error(s)
		}
	}
	s := sched([]api.Lock{{Number: 7, Owner: 5, Queue: []int{}}}, ready(5), ready(6))
	if x, owns, e := steps.Take(s, 6, 7); !alike(x, sched([]api.Lock{lock(7, 5, 6)}, ready(5), waits(6, 7))) || owns || e != api.OK {
		t.Error(x, owns, e)
	}
	if x, e := steps.Give(s, 5, 7); !alike(x, sched(nil, ready(5), ready(6))) || e != api.OK {
		t.Error(x, e)
	}
}
