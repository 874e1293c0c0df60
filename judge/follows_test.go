package judge_test

import (
	"slices"
	"testing"

	"wicketgate/api"
	"wicketgate/judge"
	"wicketgate/model"
)

// words are what filters of these tests return.
var words = []uint32{allow, allow, allow, 0x7ffc0001, 0x7ff00002, errno | 1, errno | 2, 0x00030004, killThread | 5, killProcess | 6}

// someCall answers a call that may be, of a thread that there is, mostly.
func someCall(next func(int) int, m api.Model) (int, api.Call) {
	tid := next(24) - 1
	if len(m.Threads) > 0 && next(20) > 0 {
		tid = m.Threads[next(len(m.Threads))].Tid
	}
	switch n := next(24); {
	case n < 6:
		return tid, attach([]int{0, 0, 1, 1, 2, 3, 4}[next(7)], words[next(len(words))])
	case n < 9:
		return tid, sys(uint32(next(64)))
	case n < 10:
		return tid, drop(next(12) - 1)
	case n < 12:
		return tid, exec(next(12)-1, next(2) == 0)
	}
	return tid, kind([]int{2, 3, 3, 6, 6, 6, 7, 7, 7, 9, 10, 11}[next(12)])
}

// some answers what comes of up to n calls.
func some(next func(int) int, n int) api.Model {
	m := model.Begin()
	for range next(n + 1) {
		tid, c := someCall(next, m)
		if then, _, e := model.Do(m, tid, c); e == api.OK && len(then.Threads) > 0 {
			m = then
		}
	}
	return m
}

// made is a history of calls that were done from a model on: in which order, and the model behind them.
type made struct {
	from, to api.Model
	l        []api.Past
	order    []int
}

// makes answers a history of n calls, each done at a time of its own, begun and ended up to wide ahead of it and behind it. Of each one in rare one never ended, done or not.
func makes(next func(int) int, from api.Model, n, wide, rare int) made {
	x := made{from: from, to: from}
	// Where each one comes to stand.
	places := upTo(n)
	for at := range n {
		to := at + next(n-at)
		places[at], places[to] = places[to], places[at]
	}
	x.l = make([]api.Past, n)
	for at := range n {
		time := 10*at + 10
		tid, c := someCall(next, x.to)
		begun := max(time-next(wide+1), 1)
		then, a, e := model.Do(x.to, tid, c)
		if e != api.OK || next(rare) == 0 {
			x.l[places[at]] = never(tid, c, begun)
			if e != api.OK || next(2) == 0 {
				continue
			}
		} else {
			x.l[places[at]] = past(tid, c, begun, time+next(wide+1), a)
		}
		x.to = then
		x.order = append(x.order, places[at])
	}
	return x
}

// perturbed answers the history with this or that of one call another.
func perturbed(next func(int) int, l []api.Past) []api.Past {
	l = slices.Clone(l)
	if len(l) == 0 {
		return l
	}
	p := &l[next(len(l))]
	switch next(6) {
	case 0:
		p.Tid = next(9)
	case 1:
		p.Call = kind([]int{2, 3, 6, 7, 9, 11}[next(6)])
	case 2:
		p.Begun = max(p.Begun-next(30), 1)
	case 3:
		if p.Ended != 0 {
			p.Ended = max(p.Ended-next(30), p.Begun)
		}
	case 4:
		q := l[next(len(l))]
		if p.Ended != 0 && q.Ended != 0 {
			p.Answer = q.Answer
		}
	case 5:
		if p.Ended != 0 {
			p.Answer.Value ^= 1
		}
	}
	return l
}

func TestMadeHistories(t *testing.T) { // P16.1 to P16.5
	met := map[api.Errno]int{}
	errs := map[api.Errno]int{}
	for seed := range uint64(150) {
		next := chance(seed)
		x := makes(next, some(next, 12), next(61), []int{0, 3, 12, 20, 30, 45}[next(6)], []int{5, 20, 1000}[next(3)])
		before := twin(x.from)
		// As it was made it goes.
		then, at, e := judge.Judge(x.from, x.l, x.order)
		if at != 0 || e != api.OK || !alike(then, x.to) {
			t.Fatalf("Judge of %v, %v from %v on: %v, %d, %d, not %v", x.l, x.order, x.from, then, at, e, x.to)
		}
		_, e = finds(t, x.from, x.l)
		if e == api.ErrNone {
			t.Fatalf("nothing is found of %v from %v on, though %v goes", x.l, x.from, x.order)
		}
		met[e]++
		for range 4 {
			l := perturbed(next, x.l)
			order := slices.Clone(x.order)
			if len(order) > 1 && next(2) == 0 {
				i := next(len(order))
				j := min(i+1+next(3), len(order)-1)
				order[i], order[j] = order[j], order[i]
			}
			if e := checks(t, l); e != api.OK {
				t.Fatalf("%v: %d", l, e)
			}
			errs[judges(t, x.from, l, order)]++
			_, e := finds(t, x.from, l)
			met[e]++
		}
		if !alike(x.from, before) {
			t.Fatalf("%v has become %v", before, x.from)
		}
	}
	if met[api.OK] < 200 || met[api.ErrNone] < 60 || met[api.ErrSearch] < 60 || len(met) != 3 {
		t.Error(met)
	}
	if errs[api.OK] < 60 || errs[api.ErrOrder] < 60 || errs[api.ErrWrong] < 60 || errs[api.ESRCH] < 6 || len(errs) != 4 {
		t.Error(errs)
	}
}

func TestSmallMadeHistories(t *testing.T) { // P16.2 to P16.5
	met := map[api.Errno]int{}
	for seed := range uint64(1500) {
		next := chance(seed + 5000)
		x := makes(next, some(next, 8), next(6), []int{5, 12, 20, 45}[next(4)], []int{3, 20}[next(2)])
		l := x.l
		for range next(3) {
			l = perturbed(next, l)
		}
		_, e := finds(t, x.from, l)
		met[e]++
		// None is found just where none goes.
		some := false
		for _, order := range rows(len(l)) {
			some = judges(t, x.from, l, order) == api.OK || some
		}
		if some != (e == api.OK) {
			t.Fatalf("%v from %v on: %t, %d", l, x.from, some, e)
		}
	}
	if met[api.OK] < 500 || met[api.ErrNone] < 200 || len(met) != 2 {
		t.Error(met)
	}
}

func TestOneBehindTheOther(t *testing.T) { // P16.5
	for seed := range uint64(30) {
		next := chance(seed + 9000)
		// All of them ended, and none lapped over another one.
		x := makes(next, some(next, 12), 60, 4, 1<<30)
		x.l = slices.DeleteFunc(x.l, func(p api.Past) bool { return p.Ended == 0 })
		x.order = upTo(len(x.l))
		slices.SortFunc(x.order, func(i, j int) int { return x.l[i].Begun - x.l[j].Begun })
		order, e := finds(t, x.from, x.l)
		if !slices.Equal(order, x.order) || e != api.OK {
			t.Fatalf("Find of %v from %v on: %v, %d, not %v", x.l, x.from, order, e, x.order)
		}
		if then, at, e := judge.Judge(x.from, x.l, order); !alike(then, x.to) || at != 0 || e != api.OK {
			t.Fatalf("Judge of %v, %v from %v on: %v, %d, %d", x.l, order, x.from, then, at, e)
		}
		// In no other order it goes.
		for i := range order {
			for j := range i {
				other := slices.Clone(order)
				other[i], other[j] = other[j], other[i]
				if at, e := judge.Order(x.l, other); at != j+1 || e != api.ErrOrder {
					t.Fatalf("%v, %v: %d, %d", x.l, other, at, e)
				}
				if then, at, e := judge.Judge(x.from, x.l, other); !alike(then, api.Model{}) || at != j+1 || e != api.ErrOrder {
					t.Fatalf("%v, %v: %v, %d, %d", x.l, other, then, at, e)
				}
			}
		}
	}
}
