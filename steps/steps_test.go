package steps_test

import (
	"slices"
	"testing"

	"wicketgate/api"
	"wicketgate/steps"
)

// ready, waits and over answer a thread's row.
func ready(id int) api.Run {
	return api.Run{Id: id}
}

func waits(id, lock int) api.Run {
	return api.Run{Id: id, State: 1, Wants: lock}
}

func over(id int) api.Run {
	return api.Run{Id: id, State: 2}
}

// lock answers a lock's row.
func lock(number, owner int, queue ...int) api.Lock {
	return api.Lock{Number: number, Owner: owner, Queue: queue}
}

// sched answers a schedule of these rows.
func sched(locks []api.Lock, runs ...api.Run) api.Sched {
	return api.Sched{Runs: runs, Locks: locks}
}

// named answers the call of that name.
func named(name string) call {
	return calls()[slices.IndexFunc(calls(), func(c call) bool { return c.name == name })]
}

// step is a call, and what it has to answer.
type step struct {
	name     string
	id, lock int
	owns     bool
	e        api.Errno
	then     api.Sched
}

func TestExamples(t *testing.T) { // P13.2 to P13.4
	s := sched(nil, ready(1), ready(2), ready(3))
	for i, x := range []struct {
		step
		ready []int
		stuck bool
	}{
		{step{"Take", 1, 7, true, api.OK, sched([]api.Lock{lock(7, 1)}, ready(1), ready(2), ready(3))}, []int{1, 2, 3}, false},
		{step{"Take", 2, 7, false, api.OK, sched([]api.Lock{lock(7, 1, 2)}, ready(1), waits(2, 7), ready(3))}, []int{1, 3}, false},
		{step{"Take", 3, 7, false, api.OK, sched([]api.Lock{lock(7, 1, 2, 3)}, ready(1), waits(2, 7), waits(3, 7))}, []int{1}, false},
		{step{"Give", 1, 7, false, api.OK, sched([]api.Lock{lock(7, 2, 3)}, ready(1), ready(2), waits(3, 7))}, []int{1, 2}, false},
		{step{"Give", 1, 7, false, api.ErrOwn, api.Sched{}}, []int{1, 2}, false},
		{step{"End", 2, 0, false, api.OK, sched([]api.Lock{lock(7, 3)}, ready(1), over(2), ready(3))}, []int{1, 3}, false},
		{step{"Take", 1, 8, true, api.OK, sched([]api.Lock{lock(7, 3), lock(8, 1)}, ready(1), over(2), ready(3))}, []int{1, 3}, false},
		{step{"Take", 3, 8, false, api.OK, sched([]api.Lock{lock(7, 3), lock(8, 1, 3)}, ready(1), over(2), waits(3, 8))}, []int{1}, false},
		{step{"Take", 1, 7, false, api.OK, sched([]api.Lock{lock(7, 3, 1), lock(8, 1, 3)}, waits(1, 7), over(2), waits(3, 8))}, nil, true},
	} {
		got, owns, e := named(x.name).do(s, x.id, x.lock)
		if !alike(got, x.then) || owns != x.owns || e != x.e {
			t.Fatalf("step %d: %v, %t, %d", i, got, owns, e)
		}
		if e == api.OK {
			s = got
		}
		if l := steps.Ready(s); !slices.Equal(l, x.ready) || steps.Stuck(s) != x.stuck {
			t.Errorf("step %d: Ready: %v; Stuck: %t", i, l, steps.Stuck(s))
		}
		if id, ok := steps.Pick(s, 3); x.name == "End" && (id != 3 || !ok || steps.Owner(s, 7) != 3) {
			t.Errorf("step %d: Pick(3): %d, %t; Owner(7): %d", i, id, ok, steps.Owner(s, 7))
		}
	}
}

func TestWrittenOut(t *testing.T) { // P13.2, P13.3
	// 2 owns two locks and waits for a third one, 5 waits behind it, 9 is over.
	locks := []api.Lock{lock(4, 2, 12), lock(7, 12, 2, 5), lock(30, 2)}
	s := sched(locks, ready(1), waits(2, 7), waits(5, 7), over(9), waits(12, 4))
	none := api.Sched{}
	for i, x := range []step{
		{"Add", 3, 0, false, api.OK, sched(locks, ready(1), waits(2, 7), ready(3), waits(5, 7), over(9), waits(12, 4))},
		{"Add", 20, 0, false, api.OK, sched(locks, ready(1), waits(2, 7), waits(5, 7), over(9), waits(12, 4), ready(20))},
		{"Add", 0, 0, false, api.ErrArg, none}, {"Add", -1, 0, false, api.ErrArg, none}, {"Add", 21, 0, false, api.ErrArg, none},
		{"Add", 1, 0, false, api.ErrThere, none}, {"Add", 2, 0, false, api.ErrThere, none}, {"Add", 9, 0, false, api.ErrThere, none},
		// 2 leaves the Queue of 7, 12 has 4 now; 30 is nobody's.
		{"End", 2, 0, false, api.OK, sched([]api.Lock{lock(4, 12), lock(7, 12, 5)}, ready(1), over(2), waits(5, 7), over(9), ready(12))},
		{"End", 5, 0, false, api.OK, sched([]api.Lock{lock(4, 2, 12), lock(7, 12, 2), lock(30, 2)}, ready(1), waits(2, 7), over(5), over(9), waits(12, 4))},
		{"End", 12, 0, false, api.OK, sched([]api.Lock{lock(4, 2), lock(7, 2, 5), lock(30, 2)}, ready(1), ready(2), waits(5, 7), over(9), over(12))},
		{"End", 1, 0, false, api.OK, sched(locks, over(1), waits(2, 7), waits(5, 7), over(9), waits(12, 4))},
		{"End", 9, 0, false, api.ErrNone, none}, {"End", 3, 0, false, api.ErrNone, none}, {"End", 0, 0, false, api.ErrNone, none},
		{"Forget", 9, 0, false, api.OK, sched(locks, ready(1), waits(2, 7), waits(5, 7), waits(12, 4))},
		{"Forget", 1, 0, false, api.ErrArg, none}, {"Forget", 5, 0, false, api.ErrArg, none}, {"Forget", 3, 0, false, api.ErrNone, none}, {"Forget", 0, 0, false, api.ErrNone, none}, {"Forget", 21, 0, false, api.ErrNone, none},
		{"Take", 1, 1, true, api.OK, sched(slices.Insert(slices.Clone(locks), 0, lock(1, 1)), ready(1), waits(2, 7), waits(5, 7), over(9), waits(12, 4))},
		{"Take", 1, 40, true, api.OK, sched(append(slices.Clone(locks), lock(40, 1)), ready(1), waits(2, 7), waits(5, 7), over(9), waits(12, 4))},
		{"Take", 1, 7, false, api.OK, sched([]api.Lock{lock(4, 2, 12), lock(7, 12, 2, 5, 1), lock(30, 2)}, waits(1, 7), waits(2, 7), waits(5, 7), over(9), waits(12, 4))},
		{"Take", 1, 0, false, api.ErrArg, none}, {"Take", 1, 41, false, api.ErrArg, none}, {"Take", 1, -1, false, api.ErrArg, none},
		// Who is not there, or is over, goes ahead of the lock; to wait goes ahead of to own.
		{"Take", 9, 41, false, api.ErrNone, none}, {"Take", 3, 0, false, api.ErrNone, none}, {"Take", 0, 7, false, api.ErrNone, none}, {"Take", 2, 30, false, api.ErrArg, none}, {"Take", 2, 7, false, api.ErrArg, none}, {"Take", 5, 8, false, api.ErrArg, none},
		// Who waits may give up all the same.
		{"Give", 2, 4, false, api.OK, sched([]api.Lock{lock(4, 12), lock(7, 12, 2, 5), lock(30, 2)}, ready(1), waits(2, 7), waits(5, 7), over(9), ready(12))},
		{"Give", 2, 30, false, api.OK, sched([]api.Lock{lock(4, 2, 12), lock(7, 12, 2, 5)}, ready(1), waits(2, 7), waits(5, 7), over(9), waits(12, 4))},
		{"Give", 12, 7, false, api.OK, sched([]api.Lock{lock(4, 2, 12), lock(7, 2, 5), lock(30, 2)}, ready(1), ready(2), waits(5, 7), over(9), waits(12, 4))},
		{"Give", 2, 7, false, api.ErrOwn, none}, {"Give", 1, 4, false, api.ErrOwn, none}, {"Give", 1, 8, false, api.ErrOwn, none}, {"Give", 2, 0, false, api.ErrArg, none}, {"Give", 2, 41, false, api.ErrArg, none}, {"Give", 9, 0, false, api.ErrNone, none}, {"Give", 3, 7, false, api.ErrNone, none}, {"Give", 0, 8, false, api.ErrNone, none},
	} {
		if got, owns, e := named(x.name).do(s, x.id, x.lock); !alike(got, x.then) || owns != x.owns || e != x.e {
			t.Errorf("case %d, %s(%d, %d): %v, %t, %d", i, x.name, x.id, x.lock, got, owns, e)
		}
	}
	if !checked(t, s) || !slices.Equal(steps.Owns(s, 2), []int{4, 30}) || len(steps.Owns(s, 5)) != 0 || steps.Owner(s, 7) != 12 || steps.Owner(s, 8) != 0 {
		t.Error(s)
	}
}

func TestEndGivesUpAll(t *testing.T) { // P13.2, P13.3
	// 4 owns five locks, for each of which others wait, or nobody.
	s := sched([]api.Lock{lock(1, 4, 5, 6), lock(2, 4), lock(3, 1, 4, 7), lock(20, 4, 3), lock(39, 4, 2), lock(40, 4)},
		ready(1), waits(2, 39), waits(3, 20), waits(4, 3), waits(5, 1), waits(6, 1), waits(7, 3), over(8))
	want := sched([]api.Lock{lock(1, 5, 6), lock(3, 1, 7), lock(20, 3), lock(39, 2)},
		ready(1), ready(2), ready(3), over(4), ready(5), waits(6, 1), waits(7, 3), over(8))
	if got, e := steps.End(s, 4); !alike(got, want) || e != api.OK {
		t.Error(got, e)
	}
	// By Give of each it comes to the same, but that it waits still.
	got := s
	for _, n := range steps.Owns(s, 4) {
		var e api.Errno
		if got, e = steps.Give(got, 4, n); e != api.OK {
			t.Fatal(n, e)
		}
	}
	if got, e := steps.End(got, 4); !alike(got, want) || e != api.OK {
		t.Error(got, e)
	}
}

func TestLimits(t *testing.T) { // P13.1 to P13.3
	// Eight threads, over or not.
	var eight, nine told
	for id := 13; id <= 20; id++ {
		eight.is[id], eight.over[id] = true, id%3 == 0
	}
	nine = eight
	nine.is[1] = true
	holds(t, eight, slices.Concat(upTo(20), strange), []int{0, 1, 40, 41})
	if !checked(t, eight.sched()) || checked(t, nine.sched()) {
		t.Error("8 threads may be, no more")
	}
	for _, x := range []struct {
		id int
		e  api.Errno
	}{{1, api.ErrFull}, {12, api.ErrFull}, {0, api.ErrArg}, {21, api.ErrArg}, {13, api.ErrThere}, {15, api.ErrThere}, {20, api.ErrThere}} {
		if got, e := steps.Add(eight.sched(), x.id); !alike(got, api.Sched{}) || e != x.e {
			t.Errorf("Add(%d): %v, %d", x.id, got, e)
		}
	}
	// From nothing on, in any order, to eight.
	var s api.Sched
	for i, id := range []int{7, 20, 1, 8, 19, 2, 12, 11} {
		x, e := steps.Add(s, id)
		if len(x.Runs) != i+1 || e != api.OK || !checked(t, x) {
			t.Fatalf("Add(%d): %v, %d", id, x, e)
		}
		s = x
	}
	if _, e := steps.Add(s, 3); e != api.ErrFull {
		t.Error(e)
	}
	// All locks at once, of one and of eight; each is taken, and waited for.
	for _, owners := range []int{1, 8} {
		w := told{}
		for i := range 40 {
			w.line[i+1] = []int{13 + i%owners}
		}
		for id := 13; id <= 20; id++ {
			w.is[id] = true
		}
		holds(t, w, slices.Concat(upTo(20), strange), slices.Concat(upTo(40), strange))
	}
}

func TestCheckWrittenOut(t *testing.T) { // P13.1
	for i, s := range []api.Sched{
		{}, sched(nil, ready(1)), sched(nil, ready(20)), sched(nil, over(1), over(2)), sched(nil, ready(3), over(19)),
		sched([]api.Lock{lock(1, 1)}, ready(1)), sched([]api.Lock{lock(40, 20)}, ready(20)), sched([]api.Lock{lock(1, 2), lock(2, 2)}, over(1), ready(2)),
		sched([]api.Lock{lock(7, 1, 3, 2)}, ready(1), waits(2, 7), waits(3, 7)),
		sched([]api.Lock{lock(7, 1, 2), lock(8, 2, 1)}, waits(1, 8), waits(2, 7)),
	} {
		if !checked(t, s) {
			t.Errorf("case %d: %v may be", i, s)
		}
	}
	for i, s := range []api.Sched{
		// Ids and Numbers.
		sched(nil, ready(0)), sched(nil, ready(21)), sched(nil, ready(-1)), sched(nil, ready(2), ready(1)), sched(nil, ready(1), ready(1)), sched(nil, ready(1), over(1)),
		sched([]api.Lock{lock(0, 1)}, ready(1)), sched([]api.Lock{lock(41, 1)}, ready(1)), sched([]api.Lock{lock(-1, 1)}, ready(1)), sched([]api.Lock{lock(2, 1), lock(1, 1)}, ready(1)), sched([]api.Lock{lock(2, 1), lock(2, 1)}, ready(1)),
		// States and Wants.
		sched(nil, api.Run{Id: 1, State: 3}), sched(nil, api.Run{Id: 1, State: -1}), sched(nil, api.Run{Id: 1, Wants: 7}), sched(nil, api.Run{Id: 1, State: 2, Wants: 7}), sched(nil, waits(1, 7)), sched(nil, waits(1, 0)),
		sched([]api.Lock{lock(7, 2)}, api.Run{Id: 1, Wants: 7}, ready(2)), sched([]api.Lock{lock(7, 2)}, waits(1, 7), ready(2)), sched([]api.Lock{lock(7, 2)}, waits(1, 0), ready(2)),
		// Owners.
		sched([]api.Lock{lock(7, 0)}, ready(1)), sched([]api.Lock{lock(7, 2)}, ready(1)), sched([]api.Lock{lock(7, 1)}, over(1)), sched([]api.Lock{lock(7, 1)}), sched([]api.Lock{lock(7, 1, 1)}, waits(1, 7)), sched([]api.Lock{lock(7, 1, 2, 1)}, waits(1, 7), waits(2, 7)),
		// Queues.
		sched([]api.Lock{lock(7, 1, 2)}, ready(1), ready(2)), sched([]api.Lock{lock(7, 1, 2)}, ready(1), over(2)), sched([]api.Lock{lock(7, 1, 2)}, ready(1)), sched([]api.Lock{lock(7, 1, 0)}, ready(1)), sched([]api.Lock{lock(7, 1, 21)}, ready(1)), sched([]api.Lock{lock(7, 1, 2)}, ready(1), api.Run{Id: 2, Wants: 7}),
		sched([]api.Lock{lock(7, 1, 2, 2)}, ready(1), waits(2, 7)), sched([]api.Lock{lock(7, 1, 2, 3, 2)}, ready(1), waits(2, 7), waits(3, 7)), sched([]api.Lock{lock(7, 1, 2, 2)}, ready(1), waits(2, 7), waits(3, 7)),
		sched([]api.Lock{lock(7, 1, 2), lock(8, 1, 2)}, ready(1), waits(2, 7)), sched([]api.Lock{lock(7, 1, 2), lock(8, 1)}, ready(1), waits(2, 8)), sched([]api.Lock{lock(7, 1), lock(8, 1, 2)}, ready(1), waits(2, 7)),
		// More than one of these.
		sched([]api.Lock{lock(2, 1), lock(1, 1)}, ready(2), ready(1)), sched([]api.Lock{lock(0, 0)}, ready(0)), sched([]api.Lock{lock(41, 21)}, ready(21)), sched(nil, api.Run{Id: 1, State: 3, Wants: 7}), sched(nil, api.Run{Id: 1, State: -1, Wants: 7}), sched([]api.Lock{lock(7, 2, 2)}, ready(1), over(2)), sched([]api.Lock{lock(7, 3, 3)}, ready(1)),
		sched([]api.Lock{lock(7, 1, 3, 3), lock(8, 1, 3)}, ready(1), waits(2, 8), waits(3, 7)),
	} {
		if checked(t, s) {
			t.Errorf("case %d: %v may not be", i, s)
		}
	}
}

func TestVeryMany(t *testing.T) { // P13.1, R1
	many, locks, ends := make([]api.Run, 1<<16), make([]api.Lock, 1<<16), make([]int, 1<<20)
	for i := range many {
		many[i].Id, locks[i] = i+1, api.Lock{Number: i + 1, Owner: 1}
	}
	for i := range ends {
		ends[i] = 2
	}
	for _, s := range []api.Sched{
		{Runs: many}, sched(locks, ready(1)), {Runs: make([]api.Run, 1<<16)}, {Locks: make([]api.Lock, 1<<16)},
		sched([]api.Lock{lock(1, 1, ends...)}, ready(1), waits(2, 1)), sched([]api.Lock{lock(1, 1, make([]int, 1<<20)...)}, ready(1)),
	} {
		if checked(t, s) {
			t.Error("more than there may be")
		}
	}
}

func TestAllSmallOnes(t *testing.T) { // P13.1 to P13.4
	// Each of three threads is there, over, or not; two locks have any line of them.
	lines := [][]int{nil, {1}, {2}, {3}, {1, 2}, {1, 3}, {2, 1}, {2, 3}, {3, 1}, {3, 2}, {1, 2, 3}, {1, 3, 2}, {2, 1, 3}, {2, 3, 1}, {3, 1, 2}, {3, 2, 1}}
	may, stuck := 0, 0
	for n := range 27 {
		var w told
		for id, rest := 1, n; id <= 3; id, rest = id+1, rest/3 {
			w.is[id], w.over[id] = rest%3 > 0, rest%3 > 1
		}
		for _, one := range lines {
			for _, two := range lines {
				w.line[1], w.line[2] = one, two
				if s := w.sched(); checked(t, s) {
					may++
					holds(t, w, []int{-1, 0, 1, 2, 3, 4, 5}, []int{-1, 0, 1, 2, 3})
					if steps.Stuck(s) {
						stuck++
					}
				}
			}
		}
	}
	// Of the two locks, none, one, two and three live threads make 1, 4, 23 and 160 that may be; the others of the three are over, or not there.
	if may != 8*1+12*4+6*23+160 || stuck != 6*2+24 {
		t.Error(may, stuck)
	}
}

func TestCheckOfAllSmallOnes(t *testing.T) { // P13.1
	queues := [][]int{nil}
	for _, one := range []int{1, 2, 3} {
		queues = append(queues, []int{one})
		for _, two := range []int{1, 2, 3} {
			queues = append(queues, []int{one, two})
		}
	}
	var locks [][]api.Lock
	for _, one := range queues {
		for a := range 4 {
			locks = append(locks, []api.Lock{lock(1, a, one...)}, []api.Lock{lock(2, a, one...)})
			for _, two := range queues {
				for b := range 4 {
					locks = append(locks, []api.Lock{lock(1, a, one...), lock(2, b, two...)})
				}
			}
		}
	}
	locks = append(locks, nil)
	may := 0
	for n := range 1000 {
		var runs []api.Run
		for id, rest := 1, n; id <= 3; id, rest = id+1, rest/10 {
			if digit := rest % 10; digit < 9 {
				runs = append(runs, api.Run{Id: id, State: digit / 3, Wants: digit % 3})
			}
		}
		for i, l := range locks {
			s := sched(l, runs...)
			e := steps.Check(s)
			if is := mayBe(s); is != (e == api.OK) || !is && e != api.ErrSched {
				t.Fatalf("Check of %v: %d", s, e)
			}
			if e == api.OK {
				may++
			} else if (i+n)%1000 == 0 {
				checked(t, s)
			}
		}
	}
	if may != 8*1+12*4+6*23+160 {
		t.Error(may)
	}
}

func TestSomeLargerOnes(t *testing.T) { // P13.1 to P13.4
	next := chance(13)
	waiting, stuck, threads := 0, 0, [9]int{}
	ids, locks := slices.Concat(upTo(20), strange), slices.Concat(upTo(40), strange)
	for i := range 600 {
		w := some(next)
		s := w.sched()
		if i%15 == 0 {
			holds(t, w, ids, locks)
		}
		there := []int{0, 1, 40, 41, next(40) + 1, next(40) + 1, strange[next(len(strange))]}
		for _, l := range s.Locks {
			there = append(there, l.Number)
		}
		holds(t, w, ids[:24], there)
		threads[len(s.Runs)]++
		if steps.Stuck(s) {
			stuck++
		}
		for _, l := range s.Locks {
			if len(l.Queue) > 1 {
				waiting++
			}
		}
	}
	if waiting < 100 || stuck < 30 || slices.Min(threads[:]) < 10 {
		t.Error(waiting, stuck, threads)
	}
}

func TestCheckOfBrokenOnes(t *testing.T) { // P13.1
	next := chance(14)
	numbers := slices.Concat([]int{0, 1, 2, 3, 4, 5, 19, 20, 39, 40}, strange)
	for range 120 {
		s := some(next).sched()
		for at := range places(&s) {
			for _, n := range slices.Concat(numbers, []int{next(21), next(41)}) {
				broken := twin(s)
				*places(&broken)[at] = n
				checked(t, broken)
			}
		}
		for range 40 {
			// Broken at some places at once.
			broken := twin(s)
			l := places(&broken)
			for range next(3) + 2 {
				if len(l) > 0 {
					*l[next(len(l))] = numbers[next(len(numbers))]
				}
			}
			checked(t, broken)
		}
		for at := range s.Runs {
			less, twice, turned := twin(s), twin(s), twin(s)
			less.Runs = slices.Delete(less.Runs, at, at+1)
			twice.Runs = slices.Insert(twice.Runs, at, s.Runs[at])
			turned.Runs[0], turned.Runs[at] = turned.Runs[at], turned.Runs[0]
			if checked(t, twice) || checked(t, turned) != (at == 0) {
				t.Errorf("%v: the thread at %d is there twice, or not in its place", s, at)
			}
			checked(t, less)
		}
		for at := range s.Locks {
			less, twice, turned := twin(s), twin(s), twin(s)
			less.Locks = slices.Delete(less.Locks, at, at+1)
			twice.Locks = slices.Insert(twice.Locks, at, lock(s.Locks[at].Number, s.Locks[at].Owner))
			turned.Locks[0], turned.Locks[at] = turned.Locks[at], turned.Locks[0]
			if checked(t, twice) || checked(t, turned) != (at == 0) || checked(t, less) != (len(s.Locks[at].Queue) == 0) {
				t.Errorf("%v: the lock at %d is there twice, not in its place, or not there", s, at)
			}
			brokenQueue(t, s, at)
		}
	}
}

// places answers where each number of a schedule stands.
func places(s *api.Sched) []*int {
	var l []*int
	for at := range s.Runs {
		l = append(l, &s.Runs[at].Id, &s.Runs[at].State, &s.Runs[at].Wants)
	}
	for at := range s.Locks {
		l = append(l, &s.Locks[at].Number, &s.Locks[at].Owner)
		for i := range s.Locks[at].Queue {
			l = append(l, &s.Locks[at].Queue[i])
		}
	}
	return l
}

// brokenQueue holds Check of s with one more, one less, and others in the Queue of the lock at a place.
func brokenQueue(t *testing.T, s api.Sched, at int) {
	t.Helper()
	queue := s.Locks[at].Queue
	for i := range len(queue) + 1 {
		for id := range 22 {
			more := twin(s)
			more.Locks[at].Queue = slices.Insert(more.Locks[at].Queue, i, id)
			if checked(t, more) {
				t.Errorf("%v: %d may not wait there", more, id)
			}
		}
	}
	for i := range queue {
		less, turned := twin(s), twin(s)
		less.Locks[at].Queue = slices.Delete(less.Locks[at].Queue, i, i+1)
		turned.Locks[at].Queue[0], turned.Locks[at].Queue[i] = queue[i], queue[0]
		if checked(t, less) || !checked(t, turned) {
			t.Errorf("%v: the Queue of the lock at %d", s, at)
		}
		for other := range s.Locks {
			moved := twin(less)
			moved.Locks[other].Queue = append(moved.Locks[other].Queue, queue[i])
			if checked(t, moved) != (other == at) {
				t.Errorf("%v: %d waits elsewhere", moved, queue[i])
			}
		}
	}
}

func TestHistories(t *testing.T) { // P13.2 to P13.5
	done, refused, stuck := map[string]int{}, map[api.Errno]int{}, 0
	for seed := range uint64(400) {
		next := chance(seed)
		ids, locks := 3+next(18), 1+next(40)
		var w told
		var s api.Sched
		for range 250 {
			name := []string{"Add", "Add", "Take", "Take", "Take", "Take", "Give", "Give", "Give", "End", "Forget"}[next(11)]
			id, n := next(ids+2), next(locks+2)
			if l := steps.Owns(s, id); name == "Give" && len(l) > 0 && next(4) > 0 {
				n = l[next(len(l))]
			}
			if one, ok := steps.Pick(s, next(100)); ok && name == "Take" && next(4) > 0 {
				id = one
			}
			var e api.Errno
			if w, s, e = goes(t, named(name), w, s, id, n); e != api.OK {
				refused[e]++
				continue
			}
			done[name]++
			if steps.Stuck(s) {
				stuck++
			}
			tells(t, w, s, []int{0, id, 21}, []int{0, n, 41})
		}
	}
	for _, c := range calls() {
		if done[c.name] < 500 {
			t.Errorf("%s: %d times", c.name, done[c.name])
		}
	}
	for _, e := range []api.Errno{api.ErrArg, api.ErrNone, api.ErrThere, api.ErrFull, api.ErrOwn} {
		if refused[e] < 500 {
			t.Errorf("%d: %d times", e, refused[e])
		}
	}
	if stuck < 500 {
		t.Error(stuck)
	}
}
