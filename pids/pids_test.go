package pids_test

import (
	"math"
	"slices"
	"testing"

	"wicketgate/api"
	"wicketgate/pids"
)

func TestExamples(t *testing.T) { // P10.1 to P10.3
	p, id, e := pids.Take(api.Pids{})
	if !alike(p, api.Pids{Last: 1, Used: []int{1}}) || id != 1 || e != api.OK {
		t.Fatal(p, id, e)
	}
	p, id, e = pids.Take(p)
	if !alike(p, api.Pids{Last: 2, Used: []int{1, 2}}) || id != 2 || e != api.OK {
		t.Fatal(p, id, e)
	}
	p, e = pids.Free(p, 1)
	if !alike(p, api.Pids{Last: 2, Used: []int{2}}) || e != api.OK {
		t.Fatal(p, e)
	}
	p, id, e = pids.Take(p)
	if !alike(p, api.Pids{Last: 3, Used: []int{2, 3}}) || id != 3 || e != api.OK {
		t.Fatal(p, id, e)
	}
	if q, e := pids.Free(p, 9); !alike(q, api.Pids{}) || e != api.ErrNone {
		t.Error(q, e)
	}
	q, id, e := pids.Take(api.Pids{Last: 20, Used: []int{1, 2}})
	if !alike(q, api.Pids{Last: 3, Used: []int{1, 2, 3}}) || id != 3 || e != api.OK {
		t.Error(q, id, e)
	}
	for last := range 21 {
		if q, id, e := pids.Take(api.Pids{Last: last, Used: all()}); !alike(q, api.Pids{}) || id != 0 || e != api.EAGAIN {
			t.Error(last, q, id, e)
		}
	}
	if e := pids.Check(api.Pids{Used: []int{2, 1}}); e != api.ErrPids {
		t.Error(e)
	}
	if e := pids.Check(api.Pids{Last: 21}); e != api.ErrPids {
		t.Error(e)
	}
}

// strange are numbers that are no ids.
var strange = []int{math.MinInt, -1 << 32, -1<<32 + 1, -21, -20, -2, -1, 0, 21, 22, 40, 41, 1 << 32, 1<<32 + 1, math.MaxInt}

// checked holds Check, and the errors of Take and Free, against the chapter's words, and answers whether p may be.
func checked(t *testing.T, p api.Pids) bool {
	t.Helper()
	want := mayBe(p)
	e := pids.Check(p)
	if want {
		if e != api.OK {
			t.Fatalf("Check of %v: %d", p, e)
		}
		return true
	}
	before := api.Pids{Last: p.Last, Used: slices.Clone(p.Used)}
	if e != api.ErrPids {
		t.Fatalf("Check of %v: %d", p, e)
	}
	if q, id, e := pids.Take(p); !alike(q, api.Pids{}) || id != 0 || e != api.ErrPids {
		t.Fatalf("Take of %v: %v, %d, %d", p, q, id, e)
	}
	// ErrPids goes ahead of ErrNone.
	for _, id := range append([]int{0, 1, 5, 20, 21, -1}, p.Used[:min(2, len(p.Used))]...) {
		if q, e := pids.Free(p, id); !alike(q, api.Pids{}) || e != api.ErrPids {
			t.Fatalf("Free(%d) of %v: %v, %d", id, p, q, e)
		}
	}
	if !alike(p, before) {
		t.Fatalf("%v has become %v", before, p)
	}
	return false
}

func TestCheckOfLast(t *testing.T) { // P10.1, P10.2
	for last := -50; last <= 50; last++ {
		for _, used := range [][]int{nil, {}, {1}, {20}, {last}, all()} {
			is := checked(t, api.Pids{Last: last, Used: used})
			if is != (last >= 0 && last <= 20) && !slices.Equal(used, []int{last}) {
				t.Errorf("Last %d, Used %v: %t", last, used, is)
			}
		}
	}
	for _, last := range strange {
		if is := checked(t, api.Pids{Last: last, Used: []int{3}}); is != (last == 0) {
			t.Errorf("Last %d: %t", last, is)
		}
	}
}

func TestCheckOfAllShortLists(t *testing.T) { // P10.1, P10.2
	may := map[int]int{}
	var lay func(used []int)
	lay = func(used []int) {
		if checked(t, api.Pids{Last: 7, Used: used}) {
			may[len(used)]++
		}
		if len(used) == 3 {
			return
		}
		for id := -1; id <= 22; id++ {
			lay(append(slices.Clone(used), id))
		}
	}
	lay(nil)
	if may[0] != 1 || may[1] != 20 || may[2] != 190 || may[3] != 1140 {
		t.Error(may)
	}
}

func TestCheckOfBrokenLists(t *testing.T) { // P10.1, P10.2
	lists := [][]int{{1, 5, 9, 20}, {2, 3, 4, 19}, all()}
	for _, used := range lists {
		for at := range used {
			for _, id := range append(all(), strange...) {
				broken := slices.Clone(used)
				broken[at] = id
				checked(t, api.Pids{Used: broken})
				checked(t, api.Pids{Used: slices.Insert(slices.Clone(used), at, id)})
			}
			for to := range used {
				turned := slices.Clone(used)
				turned[at], turned[to] = turned[to], turned[at]
				if checked(t, api.Pids{Used: turned}) != (at == to) {
					t.Errorf("%v", turned)
				}
			}
		}
		for _, id := range append(all(), strange...) {
			checked(t, api.Pids{Used: append(slices.Clone(used), id)})
		}
	}
	many := make([]int, 1<<20)
	for i := range many {
		many[i] = i + 1
	}
	if checked(t, api.Pids{Used: many}) || checked(t, api.Pids{Used: make([]int, 1<<20)}) {
		t.Error("more ids than there are")
	}
}

func TestTakeAndFreeOfAllIds(t *testing.T) { // P10.2, P10.3
	for mask := range 1 << 20 {
		// One Last and one id of each: the other test asks all of fewer.
		w := ofMask(mask*7919%21, mask)
		if e := pids.Check(w.pids()); e != api.OK {
			t.Fatalf("Check of %v: %d", w.pids(), e)
		}
		takes(t, w)
		frees(t, w, mask*6151%22)
	}
}

func TestTakeAndFreeFromEachLast(t *testing.T) { // P10.2, P10.3
	masks := map[int]bool{}
	for from := range 21 {
		for to := from; to <= 20; to++ {
			row := 1<<to - 1<<from
			masks[row], masks[1<<20-1-row] = true, true
		}
	}
	next := chance(10)
	for range 500 {
		masks[next(1<<20)] = true
		masks[next(1<<20)|next(1<<20)|next(1<<20)] = true
	}
	for mask := range masks {
		for last := range 21 {
			w := ofMask(last, mask)
			takes(t, w)
			for id := -1; id <= 22; id++ {
				frees(t, w, id)
			}
			for _, id := range strange {
				frees(t, w, id)
			}
		}
	}
}

func TestMemory(t *testing.T) { // P10.2, R3
	for _, used := range [][]int{nil, {}, {1}, {20}, {1, 2, 3}, {4, 9, 17}, all()[1:], all()[:19], all()} {
		for last := range 21 {
			whole := api.Pids{Last: last, Used: used}
			answers := []func(p api.Pids) api.Pids{func(p api.Pids) api.Pids {
				q, _, _ := pids.Take(p)
				return q
			}}
			for _, id := range []int{1, 2, 3, 9, 17, 20} {
				answers = append(answers, func(p api.Pids) api.Pids {
					q, _ := pids.Free(p, id)
					return q
				})
			}
			for i, answer := range answers {
				p, room := roomy(whole)
				before := slices.Clone(room)
				one, two := answer(p), answer(p)
				want := slices.Clone(one.Used)
				// What is written into the answers reaches neither the ids nor the other answer.
				for at := range two.Used {
					two.Used[at] = -1
				}
				two.Used = append(two.Used, -2)
				if !slices.Equal(room, before) || !slices.Equal(one.Used, want) {
					t.Fatalf("call %d of %v: the room is %v, the other answer %v", i, whole, room, one)
				}
				for at := range room {
					room[at] = -3
				}
				if !slices.Equal(one.Used, want) {
					t.Fatalf("call %d of %v: the answer has become %v", i, whole, one)
				}
			}
		}
	}
}

func TestHas(t *testing.T) { // P10.3
	// The ids need not be such as may be: Has says what is among them.
	for _, p := range []api.Pids{{}, {Last: 5}, {Used: []int{7}}, {Used: []int{2, 1}}, {Used: []int{9, 3, 20, 1, 3}}, {Last: 21, Used: []int{4}}, {Used: []int{-1, 0, 30}}, {Last: -1, Used: strange}, {Used: []int{5, 5}}, {Used: all()}} {
		for _, id := range slices.Concat(all(), strange, []int{30}) {
			want := false
			for _, one := range p.Used {
				if one == id {
					want = true
				}
			}
			if is := pids.Has(p, id); is != want {
				t.Errorf("Has(%d) of %v: %t", id, p, is)
			}
		}
	}
}

func TestSame(t *testing.T) { // P10.3
	// Some of them may not be: they are the same as themselves all the same.
	var l []api.Pids
	for _, last := range []int{0, 1, 20, 21, -1, math.MinInt, math.MaxInt} {
		for _, used := range [][]int{nil, {1}, {2}, {1, 2}, {2, 1}, {1, 1}, {1, 3}, {1, 2, 3}, {0}, {-1}, {1 << 32}, all(), all()[1:], all()[:19]} {
			l = append(l, api.Pids{Last: last, Used: used})
		}
	}
	for i, a := range l {
		for j, b := range l {
			b.Used = slices.Clone(b.Used)
			if is := pids.Same(a, b); is != (i == j) {
				t.Errorf("Same of %v and %v: %t", a, b, is)
			}
		}
	}
	if !pids.Same(api.Pids{Last: 3}, api.Pids{Last: 3, Used: []int{}}) || !pids.Same(api.Pids{Used: []int{}}, api.Pids{}) {
		t.Error("nil and empty are one")
	}
	p, _ := roomy(api.Pids{Used: []int{4}})
	if !pids.Same(p, api.Pids{Used: []int{4}}) {
		t.Error("the room behind the end is asked")
	}
}

func TestWhatFollows(t *testing.T) { // P10.4
	again, refused := 0, 0
	for seed := range uint64(300) {
		next := chance(seed)
		often := 1 + next(5) // How many takes there are to a freeing.
		var p api.Pids
		taken := map[int]bool{}
		var takenAt, freeSince [21]int
		for now := 1; now <= 300; now++ {
			if e := pids.Check(p); e != api.OK || len(p.Used) != len(taken) {
				t.Fatalf("%v has come about, %d are taken: %d", p, len(taken), e)
			}
			if next(often+1) == 0 {
				id := 1 + next(20)
				q, e := pids.Free(p, id)
				if (e == api.OK) != taken[id] {
					t.Fatalf("Free(%d) of %v: %d", id, p, e)
				}
				if e == api.OK {
					p, freeSince[id] = q, now
					delete(taken, id)
				}
				continue
			}
			q, id, e := pids.Take(p)
			if e != api.OK {
				refused++
				if len(taken) != 20 || e != api.EAGAIN {
					t.Fatalf("Take of %v: %d", p, e)
				}
				continue
			}
			if taken[id] || pids.Has(p, id) || !pids.Has(q, id) || id < 1 || id > 20 {
				t.Fatalf("Take of %v: %d", p, id)
			}
			if takenAt[id] > 0 {
				again++
				for other := 1; other <= 20; other++ {
					// Free all the time, from when the id was taken on till it is taken again.
					if other != id && !taken[other] && freeSince[other] < takenAt[id] {
						t.Fatalf("Take of %v: %d again, ahead of %d", p, id, other)
					}
				}
			}
			p, taken[id], takenAt[id] = q, true, now
		}
	}
	if again < 1000 || refused < 1000 {
		t.Error(again, refused)
	}
}

func TestRoundAndRound(t *testing.T) { // P10.2, P10.4
	// One that is freed at once comes up again behind all the others.
	var p api.Pids
	for i := range 100 {
		q, id, e := pids.Take(p)
		if id != i%20+1 || e != api.OK {
			t.Fatalf("Take %d: %d, %d", i, id, e)
		}
		if p, e = pids.Free(q, id); e != api.OK || !alike(p, api.Pids{Last: id}) {
			t.Fatalf("Free(%d): %v, %d", id, p, e)
		}
	}
	// Where but one is free, it is the next one, from wherever the last one was.
	for last := range 21 {
		for id := 1; id <= 20; id++ {
			w := ofMask(last, 1<<20-1)
			w.taken[id] = false
			if q, got, e := pids.Take(w.pids()); got != id || e != api.OK || !alike(q, api.Pids{Last: id, Used: all()}) {
				t.Errorf("Last %d, all but %d: %v, %d, %d", last, id, q, got, e)
			}
		}
	}
}
