package pids_test

import (
	"slices"
	"testing"

	"wicketgate/api"
	"wicketgate/pids"
)

// told is ids as the tests go along with them: the last one, and of each one whether it is taken.
type told struct {
	last  int
	taken [21]bool
}

// pids answers them as a value.
func (w told) pids() api.Pids {
	p := api.Pids{Last: w.last}
	for id, is := range w.taken {
		if is {
			p.Used = append(p.Used, id)
		}
	}
	return p
}

// ofMask answers the ids of which the bits say that they are taken, the bit 0 that of the id 1.
func ofMask(last, mask int) told {
	w := told{last: last}
	for id := 1; id <= 20; id++ {
		w.taken[id] = mask>>(id-1)&1 == 1
	}
	return w
}

// take takes as the chapter's words tell it.
func (w *told) take() (int, api.Errno) {
	var order []int
	for id := w.last + 1; id <= 20; id++ {
		order = append(order, id)
	}
	for id := 1; id <= w.last; id++ {
		order = append(order, id)
	}
	for _, id := range order {
		if !w.taken[id] {
			w.taken[id], w.last = true, id
			return id, api.OK
		}
	}
	return 0, api.EAGAIN
}

// free frees as the chapter's words tell it.
func (w *told) free(id int) api.Errno {
	if id < 1 || id > 20 || !w.taken[id] {
		return api.ErrNone
	}
	w.taken[id] = false
	return api.OK
}

// mayBe says whether p may be, clause by clause as the chapter's words tell it.
func mayBe(p api.Pids) bool {
	seen := map[int]bool{}
	for i, id := range p.Used {
		if id < 1 || id > 20 || seen[id] || i > 0 && p.Used[i-1] > id {
			return false
		}
		seen[id] = true
	}
	return p.Last >= 0 && p.Last <= 20
}

// alike says whether both are the same.
func alike(a, b api.Pids) bool {
	if a.Last != b.Last || len(a.Used) != len(b.Used) {
		return false
	}
	for i, id := range a.Used {
		if id != b.Used[i] {
			return false
		}
	}
	return true
}

// takes holds Take of w's ids against w.
func takes(t *testing.T, w told) {
	t.Helper()
	p := w.pids()
	q, id, e := pids.Take(p)
	after := w
	wantId, wantError := after.take()
	want := after.pids()
	if wantError != api.OK {
		want = api.Pids{}
	}
	if !alike(q, want) || id != wantId || e != wantError {
		t.Fatalf("Take of %v: %v, %d, %d, not %v, %d, %d", p, q, id, e, want, wantId, wantError)
	}
	if !alike(p, w.pids()) {
		t.Fatalf("%v has become %v", w.pids(), p)
	}
}

// frees holds Free and Has of w's ids and of one id against w.
func frees(t *testing.T, w told, id int) {
	t.Helper()
	p := w.pids()
	q, e := pids.Free(p, id)
	after := w
	wantError := after.free(id)
	want := after.pids()
	if wantError != api.OK {
		want = api.Pids{}
	}
	if !alike(q, want) || e != wantError {
		t.Fatalf("Free(%d) of %v: %v, %d, not %v, %d", id, p, q, e, want, wantError)
	}
	if !alike(p, w.pids()) {
		t.Fatalf("%v has become %v", w.pids(), p)
	}
	if is := pids.Has(p, id); is != (wantError == api.OK) {
		t.Fatalf("Has(%d) of %v: %t", id, p, is)
	}
}

// chance answers a function that answers numbers below n, mixed by the seed.
func chance(seed uint64) func(n int) int {
	return func(n int) int {
		seed = seed*6364136223846793005 + 1442695040888963407
		return int(seed >> 33 % uint64(n))
	}
}

// all answers the ids from 1 to 20.
func all() []int {
	var l []int
	for id := 1; id <= 20; id++ {
		l = append(l, id)
	}
	return l
}

// roomy answers the ids in a list with room behind its end, and all of that room.
func roomy(p api.Pids) (api.Pids, []int) {
	room := slices.Concat(p.Used, []int{-7, -8, -9})
	p.Used = room[:len(p.Used)]
	return p, room
}
