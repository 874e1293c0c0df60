package judge_test

import (
	"slices"
	"testing"

	"wicketgate/api"
	"wicketgate/judge"
	"wicketgate/model"
)

// inTurn answers n calls, one behind the other, from a time on.
func inTurn(n, from int) []api.Past {
	var l []api.Past
	for at := range n {
		l = append(l, past(1, noNew, from+2*at, from+2*at+1, fine))
	}
	return l
}

// upTo answers the numbers from 0 to n less one.
func upTo(n int) []int {
	var l []int
	for i := range n {
		l = append(l, i)
	}
	return l
}

func TestSearchThatIsGivenUp(t *testing.T) { // P16.4
	// Five calls that lap over one another and go in all 326 rows, and five that never go: of each row each of these is done, and each that is left: 325 and 5 times 326 are 1955. What goes ahead of them is done once each.
	for at, bad := range []api.Past{past(1, fork, 500, 600, value(9)), past(1, wait, 500, 600, fine), past(7, noNew, 500, 600, fine)} {
		for _, others := range []api.Past{bad, past(20, noNew, 600, 600, fine), never(7, noNew, 500), never(-1, noNew, 600)} {
			for _, going := range []api.Past{past(1, noNew, 500, 600, fine), never(1, noNew, 550)} {
				cluster := slices.Concat(slices.Repeat([]api.Past{going}, 2), slices.Repeat([]api.Past{others}, 4), slices.Repeat([]api.Past{going}, 3), []api.Past{bad})
				for n, want := range map[int]api.Errno{0: api.ErrNone, 45: api.ErrNone, 46: api.ErrSearch} {
					l := slices.Concat(inTurn(n, 1), cluster)
					if order, e := judge.Find(model.Begin(), l); len(order) != 0 || e != want {
						t.Errorf("%d, %v, %v, %d: %v, %d", at, others, going, n, order, e)
					}
					if _, done, _ := found(model.Begin(), l); n == 45 && done != 2000 {
						t.Errorf("%d, %v, %v: %d", at, others, going, done)
					}
				}
			}
		}
	}
}

func TestSearchThatIsOverAtTheLast(t *testing.T) { // P16.4
	// The first call never ended, and drops what the last one needs: the search does all rows with it ahead of the one without it.
	spoils, last := never(1, drop(5), 200), past(1, drop(6), 200, 300, fine)
	cluster := slices.Concat([]api.Past{spoils}, slices.Repeat([]api.Past{never(3, noNew, 200)}, 19), slices.Repeat([]api.Past{past(1, noNew, 200, 300, fine)}, 4), []api.Past{last})
	for n, want := range map[int]api.Errno{0: api.OK, 30: api.OK, 31: api.OK, 32: api.ErrSearch, 33: api.ErrSearch, 35: api.ErrSearch} {
		l := slices.Concat(inTurn(n, 1), cluster)
		var ends []int
		if want == api.OK {
			ends = append(upTo(n), n+20, n+21, n+22, n+23, n+24)
		}
		if order, e := finds(t, model.Begin(), l); !slices.Equal(order, ends) || e != want {
			t.Errorf("%d: %v, %d", n, order, e)
		}
		if _, done, _ := found(model.Begin(), l); done != min(1969+n, 2000) {
			t.Errorf("%d: %d", n, done)
		}
	}
}

func TestSearchOfManyThatLap(t *testing.T) { // P16.4
	for n := range 61 {
		// All at once: the first row is the one.
		l := slices.Repeat([]api.Past{past(1, noNew, 1, 100, fine)}, n)
		if order, e := finds(t, model.Begin(), l); !slices.Equal(order, upTo(n)) || e != api.OK {
			t.Errorf("%d: %v, %d", n, order, e)
		}
		// The times alone say it: each one ends ahead of the one that stands ahead of it.
		l = inTurn(n, 1)
		slices.Reverse(l)
		want := upTo(n)
		slices.Reverse(want)
		if order, e := finds(t, model.Begin(), l); !slices.Equal(order, want) || e != api.OK {
			t.Errorf("%d: %v, %d", n, order, e)
		}
		// The answers alone say it: who is begun last has the least id.
		n = n%7 + 1
		l = nil
		for at := range n {
			l = append(l, past(1, clone, 1, 100, value(n+1-at)))
		}
		want = upTo(n)
		slices.Reverse(want)
		if order, e := finds(t, model.Begin(), l); !slices.Equal(order, want) || e != api.OK {
			t.Errorf("%d: %v, %d", n, order, e)
		}
	}
}

func TestSearchWrittenOut(t *testing.T) { // P16.4
	again := failed(api.EAGAIN)
	for at, q := range []struct {
		l     []api.Past
		order []int
		e     api.Errno
	}{
		// What never ended may be needed, though it stands behind; but not ahead of what had ended when it began.
		{[]api.Past{past(1, wait, 2, 3, again), never(1, fork, 1)}, []int{1, 0}, api.OK},
		{[]api.Past{past(1, wait, 2, 3, again), never(1, fork, 3)}, []int{1, 0}, api.OK},
		{[]api.Past{past(1, wait, 2, 3, again), never(1, fork, 4)}, nil, api.ErrNone},
		// The thread of a call that never ended lives on, or not.
		{[]api.Past{never(1, exit, 1), past(1, noNew, 5, 6, fine)}, []int{1}, api.OK},
		{[]api.Past{past(1, clone, 1, 1, value(2)), never(1, exit, 1), past(2, wait, 5, 6, failed(api.ECHILD))}, []int{0, 1, 2}, api.OK},
		{[]api.Past{past(1, fork, 1, 1, value(2)), never(2, kind(api.CallGroup), 1), past(1, wait, 5, 6, value(2))}, []int{0, 1, 2}, api.OK},
		{[]api.Past{past(1, fork, 1, 1, value(2)), never(2, kind(api.CallGroup), 1), past(1, wait, 5, 6, again)}, []int{0, 2}, api.OK},
		// Ends and beginnings at one time lap over one another.
		{[]api.Past{past(1, wait, 1, 2, again), past(1, fork, 2, 3, value(2))}, []int{1, 0}, api.OK},
		{[]api.Past{past(1, wait, 1, 1, again), past(1, fork, 2, 3, value(2))}, nil, api.ErrNone},
		{[]api.Past{past(1, wait, 1, 1, again), past(1, fork, 1, 1, value(2))}, []int{1, 0}, api.OK},
		// A verdict tells what was attached by then.
		{[]api.Past{past(1, attach(0, errno|1), 1, 9, fine), past(1, sys(5), 1, 9, api.Answer{Verdict: api.Verdict{Action: api.Allow}})}, []int{1, 0}, api.OK},
		{[]api.Past{past(1, sys(5), 1, 9, api.Answer{Verdict: api.Verdict{Action: api.Refuse, Data: 1}}), past(1, attach(0, errno|1), 1, 9, fine)}, []int{1, 0}, api.OK},
		{[]api.Past{past(1, sys(5), 1, 9, api.Answer{Verdict: api.Verdict{Action: api.Refuse, Data: 2}}), past(1, attach(0, errno|1), 1, 9, fine), past(1, attach(0, errno|2), 1, 9, fine)}, []int{1, 2, 0}, api.OK},
		{[]api.Past{past(1, sys(5), 5, 9, api.Answer{Verdict: api.Verdict{Action: api.Refuse, Data: 1}}), never(1, attach(0, errno|2), 1), past(1, attach(0, errno|1), 1, 2, fine)}, []int{1, 2, 0}, api.OK},
		{[]api.Past{past(1, sys(5), 5, 9, api.Answer{Verdict: api.Verdict{Action: api.Refuse, Data: 1}}), never(1, attach(0, errno|2), 3), past(1, attach(0, errno|1), 1, 2, fine)}, []int{2, 0}, api.OK},
		{[]api.Past{never(1, attach(0, errno|2), 3), past(1, sys(5), 5, 9, api.Answer{Verdict: api.Verdict{Action: api.Refuse, Data: 1}}), past(1, attach(0, errno|1), 1, 2, fine)}, []int{2, 1}, api.OK},
		// The calls of two threads: a chain may not come to who has another one.
		{[]api.Past{past(1, clone, 1, 1, value(2)), past(1, attach(1, errno|1), 2, 9, fine), past(2, attach(0, errno|2), 2, 9, fine)}, []int{0, 1, 2}, api.OK},
		{[]api.Past{past(1, clone, 1, 1, value(2)), past(2, attach(0, errno|2), 2, 9, fine), past(1, attach(1, errno|1), 2, 9, fine)}, []int{0, 2, 1}, api.OK},
		{[]api.Past{past(1, clone, 1, 1, value(2)), past(1, attach(1, errno|1), 2, 9, value(2)), past(2, attach(0, errno|2), 2, 9, fine)}, []int{0, 2, 1}, api.OK},
	} {
		if order, e := finds(t, model.Begin(), q.l); !slices.Equal(order, q.order) || e != q.e {
			t.Errorf("%d: %v, %d", at, order, e)
		}
	}
}

func TestFindOfAllPairs(t *testing.T) { // P16.2 to P16.5
	// Two calls of all these, with all times and some answers, and one behind them that tells whether there is a child, and which filter there is.
	set := []struct {
		c api.Call
		l []api.Answer
	}{
		{fork, []api.Answer{value(2), value(3), failed(api.EAGAIN)}},
		{wait, []api.Answer{failed(api.ECHILD), failed(api.EAGAIN), value(2)}},
		{exit, []api.Answer{ended, fine}},
		{drop(5), []api.Answer{fine}},
		{attach(0, errno|1), []api.Answer{fine, failed(api.EACCES), failed(api.EINVAL)}},
		{kind(api.CallStrict), []api.Answer{fine, failed(api.EINVAL)}},
	}
	times := [][2]int{{1, 0}, {3, 0}, {1, 1}, {1, 2}, {1, 4}, {2, 3}, {3, 4}}
	var one []api.Past
	for _, q := range set {
		for _, b := range times {
			if b[1] == 0 {
				one = append(one, never(1, q.c, b[0]))
				continue
			}
			for _, a := range q.l {
				one = append(one, past(1, q.c, b[0], b[1], a))
			}
		}
	}
	met := map[api.Errno]int{}
	rowsOfTwo := [][]int{{}, {0}, {1}, {0, 1}, {1, 0}}
	for _, p := range one {
		for _, q := range one {
			l := []api.Past{p, q}
			_, e := finds(t, model.Begin(), l)
			met[e]++
			goes := false
			for _, order := range rowsOfTwo {
				goes = judges(t, model.Begin(), l, order) == api.OK || goes
			}
			// None is found just where none goes.
			if goes != (e == api.OK) {
				t.Fatalf("%v: %t, %d", l, goes, e)
			}
		}
	}
	if met[api.OK] < 1000 || met[api.ErrNone] < 1000 || len(met) != 2 {
		t.Error(met)
	}
}
