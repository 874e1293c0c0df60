package steps_test

import (
	"math"
	"slices"
	"testing"

	"wicketgate/api"
	"wicketgate/steps"
)

// told is threads and locks as the tests go along with them: of each id whether there is such a thread, and whether it is over; of each lock the line of who asks for it, its owner at the head.
type told struct {
	is, over [21]bool
	line     [41][]int
}

// sched answers them as a value.
func (w told) sched() api.Sched {
	var s api.Sched
	for id := 1; id <= 20; id++ {
		r := api.Run{Id: id, Wants: w.wants(id)}
		if r.Wants != 0 {
			r.State = 1
		}
		if w.over[id] {
			r.State = 2
		}
		if w.is[id] {
			s.Runs = append(s.Runs, r)
		}
	}
	for n := 1; n <= 40; n++ {
		if l := w.line[n]; len(l) > 0 {
			s.Locks = append(s.Locks, api.Lock{Number: n, Owner: l[0], Queue: append([]int(nil), l[1:]...)})
		}
	}
	return s
}

// wants answers the lock in whose line id stands, but not at the head.
func (w told) wants(id int) int {
	for n, l := range w.line {
		if slices.Index(l, id) > 0 {
			return n
		}
	}
	return 0
}

// owner answers who stands at the head of a lock's line.
func (w told) owner(n int) int {
	if n < 1 || n > 40 || len(w.line[n]) == 0 {
		return 0
	}
	return w.line[n][0]
}

// alive says whether there is such a thread that is not over.
func (w told) alive(id int) bool {
	return id >= 1 && id <= 20 && w.is[id] && !w.over[id]
}

func (w *told) add(id int) api.Errno {
	if id < 1 || id > 20 {
		return api.ErrArg
	}
	if w.is[id] {
		return api.ErrThere
	}
	count := 0
	for _, is := range w.is {
		if is {
			count++
		}
	}
	if count >= 8 {
		return api.ErrFull
	}
	w.is[id] = true
	return api.OK
}

func (w *told) end(id int) api.Errno {
	if !w.alive(id) {
		return api.ErrNone
	}
	w.over[id] = true
	for n, l := range w.line {
		w.line[n] = without(l, id)
	}
	return api.OK
}

func (w *told) forget(id int) api.Errno {
	if id < 1 || id > 20 || !w.is[id] {
		return api.ErrNone
	}
	if !w.over[id] {
		return api.ErrArg
	}
	w.is[id], w.over[id] = false, false
	return api.OK
}

func (w *told) take(id, n int) (bool, api.Errno) {
	if !w.alive(id) {
		return false, api.ErrNone
	}
	if n < 1 || n > 40 || w.wants(id) != 0 {
		return false, api.ErrArg
	}
	if w.owner(n) == id {
		return false, api.ErrOwn
	}
	w.line[n] = append(without(w.line[n], id), id)
	return len(w.line[n]) == 1, api.OK
}

func (w *told) give(id, n int) api.Errno {
	if !w.alive(id) {
		return api.ErrNone
	}
	if n < 1 || n > 40 {
		return api.ErrArg
	}
	if w.owner(n) != id {
		return api.ErrOwn
	}
	w.line[n] = without(w.line[n], id)
	return api.OK
}

// without answers the numbers but for one, in new memory.
func without(l []int, one int) []int {
	var rest []int
	for _, n := range l {
		if n != one {
			rest = append(rest, n)
		}
	}
	return rest
}

// call is a call that changes a schedule, and how the tests go along with it.
type call struct {
	name  string
	locks bool // whether the lock counts
	do    func(s api.Sched, id, lock int) (api.Sched, bool, api.Errno)
	told  func(w *told, id, lock int) (bool, api.Errno)
}

// calls answers all of them.
func calls() []call {
	of := func(do func(s api.Sched, id int) (api.Sched, api.Errno)) func(s api.Sched, id, lock int) (api.Sched, bool, api.Errno) {
		return func(s api.Sched, id, lock int) (api.Sched, bool, api.Errno) {
			x, e := do(s, id)
			return x, false, e
		}
	}
	toldOf := func(do func(w *told, id int) api.Errno) func(w *told, id, lock int) (bool, api.Errno) {
		return func(w *told, id, lock int) (bool, api.Errno) {
			return false, do(w, id)
		}
	}
	give := func(s api.Sched, id, lock int) (api.Sched, bool, api.Errno) {
		x, e := steps.Give(s, id, lock)
		return x, false, e
	}
	toldGive := func(w *told, id, lock int) (bool, api.Errno) {
		return false, w.give(id, lock)
	}
	return []call{
		{"Add", false, of(steps.Add), toldOf((*told).add)},
		{"End", false, of(steps.End), toldOf((*told).end)},
		{"Forget", false, of(steps.Forget), toldOf((*told).forget)},
		{"Take", true, steps.Take, (*told).take},
		{"Give", true, give, toldGive},
	}
}

// goes holds one call of w's schedule against w, and answers both as the call leaves them.
func goes(t *testing.T, c call, w told, s api.Sched, id, lock int) (told, api.Sched, api.Errno) {
	t.Helper()
	after := w
	wantOwns, wantError := c.told(&after, id, lock)
	want := after.sched()
	if wantError != api.OK {
		want = api.Sched{}
	}
	got, owns, e := c.do(s, id, lock)
	if !alike(got, want) || owns != wantOwns || e != wantError {
		t.Fatalf("%s(%d, %d) of %v: %v, %t, %d, not %v, %t, %d", c.name, id, lock, s, got, owns, e, want, wantOwns, wantError)
	}
	if e != api.OK {
		return w, s, e
	}
	if !mayBe(got) || steps.Check(got) != api.OK {
		t.Fatalf("%s(%d, %d) of %v: %v may not be", c.name, id, lock, s, got)
	}
	return after, got, e
}

// holds holds each call, with each of these ids and locks, of w's schedule, which may be, against w.
func holds(t *testing.T, w told, ids, locks []int) {
	t.Helper()
	s := w.sched()
	if e := steps.Check(s); e != api.OK || !mayBe(s) {
		t.Fatalf("Check of %v: %d", s, e)
	}
	for _, c := range calls() {
		asked := locks
		if !c.locks {
			asked = []int{0}
		}
		for _, id := range ids {
			for _, lock := range asked {
				goes(t, c, w, s, id, lock)
			}
		}
	}
	tells(t, w, s, ids, locks)
	if !alike(s, w.sched()) {
		t.Fatalf("%v has become %v", w.sched(), s)
	}
}

// tells holds what is told of w's schedule against w.
func tells(t *testing.T, w told, s api.Sched, ids, locks []int) {
	t.Helper()
	var ready, waits []int
	for id := 1; id <= 20; id++ {
		if w.wants(id) != 0 {
			waits = append(waits, id)
		} else if w.alive(id) {
			ready = append(ready, id)
		}
	}
	if l := steps.Ready(s); !slices.Equal(l, ready) {
		t.Fatalf("Ready of %v: %v, not %v", s, l, ready)
	}
	if is := steps.Stuck(s); is != (len(ready) == 0 && len(waits) > 0) {
		t.Fatalf("Stuck of %v: %t", s, is)
	}
	for _, n := range slices.Concat(picks, []int{len(ready) - 1, len(ready), len(ready) + 1, 2*len(ready) - 1}) {
		want, wantOk := 0, len(ready) > 0
		if wantOk && n < 0 {
			want = ready[0]
		} else if wantOk {
			want = ready[n%len(ready)]
		}
		if id, ok := steps.Pick(s, n); id != want || ok != wantOk {
			t.Fatalf("Pick(%d) of %v: %d, %t, not %d, %t", n, s, id, ok, want, wantOk)
		}
	}
	for _, n := range locks {
		if id := steps.Owner(s, n); id != w.owner(n) {
			t.Fatalf("Owner(%d) of %v: %d, not %d", n, s, id, w.owner(n))
		}
	}
	for _, id := range ids {
		var want []int
		for n := 1; n <= 40; n++ {
			if w.owner(n) == id && id != 0 {
				want = append(want, n)
			}
		}
		if l := steps.Owns(s, id); !slices.Equal(l, want) {
			t.Fatalf("Owns(%d) of %v: %v, not %v", id, s, l, want)
		}
	}
}

// checked holds Check of s against the chapter's words; of what may not be, all other calls, too. It answers whether s may be.
func checked(t *testing.T, s api.Sched) bool {
	t.Helper()
	want := mayBe(s)
	if e := steps.Check(s); e != api.OK && e != api.ErrSched || (e == api.OK) != want {
		t.Fatalf("Check of %v: %d", s, e)
	}
	if want {
		return true
	}
	before := twin(s)
	for _, id := range []int{-1, 0, 1, 2, 3, 20, 21} {
		for _, lock := range []int{-1, 0, 1, 2, 40, 41} {
			for _, c := range calls() {
				// ErrSched goes ahead of all other errors.
				if got, owns, e := c.do(s, id, lock); !alike(got, api.Sched{}) || owns || e != api.ErrSched {
					t.Fatalf("%s(%d, %d) of %v: %v, %t, %d", c.name, id, lock, s, got, owns, e)
				}
			}
			if o := steps.Owner(s, lock); o != 0 {
				t.Fatalf("Owner(%d) of %v: %d", lock, s, o)
			}
		}
		if l := steps.Owns(s, id); len(l) != 0 {
			t.Fatalf("Owns(%d) of %v: %v", id, s, l)
		}
		if one, ok := steps.Pick(s, id); one != 0 || ok {
			t.Fatalf("Pick(%d) of %v: %d, %t", id, s, one, ok)
		}
	}
	if l := steps.Ready(s); len(l) != 0 || steps.Stuck(s) {
		t.Fatalf("Ready of %v: %v; Stuck: %t", s, l, steps.Stuck(s))
	}
	if !alike(s, before) {
		t.Fatalf("%v has become %v", before, s)
	}
	return false
}

// mayBe says whether s may be, clause by clause as the chapter's words tell it.
func mayBe(s api.Sched) bool {
	if len(s.Runs) > 8 {
		return false
	}
	for at, r := range s.Runs {
		if r.Id < 1 || r.Id > 20 || at > 0 && s.Runs[at-1].Id >= r.Id {
			return false
		}
		if r.State < 0 || r.State > 2 || r.State != 1 && r.Wants != 0 {
			return false
		}
		// Who waits is in its lock's Queue; who is in a Queue waits, and is there once in all.
		everywhere, there := 0, 0
		for _, l := range s.Locks {
			for _, id := range l.Queue {
				if id == r.Id {
					everywhere++
				}
				if id == r.Id && l.Number == r.Wants {
					there++
				}
			}
		}
		if r.State == 1 && (everywhere != 1 || there != 1) || r.State != 1 && everywhere != 0 {
			return false
		}
	}
	for at, l := range s.Locks {
		if l.Number < 1 || l.Number > 40 || at > 0 && s.Locks[at-1].Number >= l.Number {
			return false
		}
		owner := false
		for _, r := range s.Runs {
			owner = owner || r.Id == l.Owner && r.State != 2
		}
		if !owner {
			return false
		}
		for _, id := range l.Queue {
			there := false
			for _, r := range s.Runs {
				there = there || r.Id == id
			}
			if !there || id == l.Owner {
				return false
			}
		}
	}
	return true
}

// alike says whether both are the same.
func alike(a, b api.Sched) bool {
	if len(a.Runs) != len(b.Runs) || len(a.Locks) != len(b.Locks) {
		return false
	}
	for at, r := range a.Runs {
		if q := b.Runs[at]; r.Id != q.Id || r.State != q.State || r.Wants != q.Wants {
			return false
		}
	}
	for at, l := range a.Locks {
		k := b.Locks[at]
		if l.Number != k.Number || l.Owner != k.Owner || len(l.Queue) != len(k.Queue) {
			return false
		}
		for i, id := range l.Queue {
			if k.Queue[i] != id {
				return false
			}
		}
	}
	return true
}

// twin answers the schedule in new memory.
func twin(s api.Sched) api.Sched {
	x := api.Sched{Runs: append([]api.Run(nil), s.Runs...)}
	for _, l := range s.Locks {
		l.Queue = append([]int(nil), l.Queue...)
		x.Locks = append(x.Locks, l)
	}
	return x
}

// strange are numbers that are no ids, or no locks, or neither.
var strange = []int{0, -1, 21, 41, -2, -20, -21, -40, -41, 22, 42, 64, 65, 256, 257, math.MinInt, -1 << 32, -1<<32 + 1, 1 << 32, 1<<32 + 1, math.MaxInt}

// picks are some numbers by which somebody may be picked.
var picks = []int{math.MinInt, math.MinInt + 1, -1 << 32, -9, -8, -7, -6, -5, -4, -3, -2, -1, 0, 1, 2, 3, 4, 5, 6, 7, 8, 9, 10, 11, 12, 13, 14, 15, 16, 17, 4000, 1<<32 + 1, math.MaxInt - 1, math.MaxInt}

// upTo answers the numbers from 1 to n.
func upTo(n int) []int {
	var l []int
	for i := range n {
		l = append(l, i+1)
	}
	return l
}

// chance answers a function that answers numbers below n, mixed by the seed.
func chance(seed uint64) func(n int) int {
	return func(n int) int {
		seed = seed*6364136223846793005 + 1442695040888963407
		return int(seed >> 33 % uint64(n))
	}
}

// some answers threads and locks that may be, by chance.
func some(next func(n int) int) told {
	var w told
	var live []int
	for range next(9) {
		id := next(20) + 1
		if w.is[id] {
			continue
		}
		w.is[id], w.over[id] = true, next(4) == 0
		if !w.over[id] {
			live = append(live, id)
		}
	}
	if len(live) == 0 {
		return w
	}
	var locks []int
	for range next(6) {
		n := next(40) + 1
		if w.line[n] == nil {
			locks = append(locks, n)
			w.line[n] = []int{live[next(len(live))]}
		}
	}
	for range len(live) * next(6) {
		// The order in which they come to wait is mixed, too.
		id := live[next(len(live))]
		if len(locks) == 0 || w.wants(id) != 0 {
			continue
		}
		n := locks[next(len(locks))]
		if next(2) == 0 {
			n = locks[0]
		}
		if w.owner(n) != id {
			w.line[n] = append(w.line[n], id)
		}
	}
	return w
}
