package judge_test

import (
	"math"
	"slices"
	"testing"

	"wicketgate/api"
	"wicketgate/judge"
	"wicketgate/model"
)

func TestExamples(t *testing.T) { // P16.4: the chapter's
	none, again := failed(api.ECHILD), failed(api.EAGAIN)
	for at, q := range []struct {
		l     []api.Past
		order []int
		e     api.Errno
	}{
		{[]api.Past{past(1, noNew, 1, 2, fine), past(1, wait, 3, 4, none)}, []int{0, 1}, api.OK},
		{[]api.Past{past(1, fork, 1, 4, value(2)), past(1, wait, 2, 3, none)}, []int{1, 0}, api.OK},
		{[]api.Past{past(1, fork, 1, 2, value(3))}, nil, api.ErrNone},
		{[]api.Past{never(1, fork, 1), past(1, wait, 2, 3, again)}, []int{0, 1}, api.OK},
		{[]api.Past{never(1, fork, 1), past(1, wait, 2, 3, none)}, []int{1}, api.OK},
	} {
		if order, e := finds(t, model.Begin(), q.l); !slices.Equal(order, q.order) || e != q.e {
			t.Errorf("%d: %v, %d", at, order, e)
		}
	}
}

// calls answers calls that may be, and then such as may not be.
func calls() (may, mayNot []api.Call) {
	may = []api.Call{attach(0, allow), attach(1, allow), attach(3, allow), attach(4, allow), attach(math.MinInt, 5), {Kind: 1}, {Kind: 1, Bytes: make([]byte, 5000)}, drop(0), drop(5), drop(10), drop(-1), drop(math.MaxInt), sys(0), sys(math.MaxUint32), exec(0, false), exec(9, true), exec(-1, true)}
	for _, n := range []int{2, 3, 5, 6, 7, 8, 9, 10, 11} {
		may = append(may, kind(n))
	}
	for _, n := range []int{0, -1, 12, 256, 257, 1<<32 + 3, math.MinInt, math.MaxInt} {
		mayNot = append(mayNot, kind(n))
	}
	for n := range 12 {
		c := kind(n)
		for _, set := range []func(c *api.Call){
			func(c *api.Call) { c.Flags = 1 }, func(c *api.Call) { c.Uid = 1 }, func(c *api.Call) { c.Bytes = []byte{0} }, func(c *api.Call) { c.File.Owner = 1 }, func(c *api.Call) { c.Data.Args[5] = 1 },
		} {
			x := c
			set(&x)
			if model.CheckCall(x) != api.OK {
				mayNot = append(mayNot, x)
			}
		}
	}
	return may, mayNot
}

// answers are answers, none of which is zero.
var answers = []api.Answer{{Err: 1}, {Err: api.ECHILD}, {Err: -1}, {Value: 1}, {Value: -1}, {Value: math.MinInt}, {Verdict: api.Verdict{Action: 1}}, {Verdict: api.Verdict{Data: 1}}, {Verdict: api.Verdict{Action: -5, Data: 7}}, {Ended: true}}

func TestCheckOfOne(t *testing.T) { // P16.1
	times := []int{math.MinInt, math.MinInt + 1, -1 << 32, -2, -1, 0, 1, 2, 3, 1 << 32, math.MaxInt - 1, math.MaxInt}
	met := map[api.Errno]int{}
	for _, begun := range times {
		for _, ended := range times {
			for _, a := range append([]api.Answer{{}}, answers...) {
				for _, tid := range append([]int{1, 20}, strange...) {
					met[checks(t, []api.Past{past(tid, noNew, begun, ended, a)})]++
				}
			}
		}
	}
	if met[api.OK] < 1000 || met[api.ErrPast] < 1000 || len(met) != 2 {
		t.Error(met)
	}
	may, mayNot := calls()
	for _, c := range may {
		for _, p := range []api.Past{never(1, c, 1), past(1, c, 5, 5, value(77)), past(-3, c, 1, math.MaxInt, ended)} {
			if e := checks(t, []api.Past{p}); e != api.OK {
				t.Errorf("%v: %d", p, e)
			}
		}
	}
	for _, c := range mayNot {
		for _, p := range []api.Past{never(1, c, 1), past(1, c, 5, 5, value(77))} {
			if e := checks(t, []api.Past{p}); e != api.ErrPast {
				t.Errorf("%v: %d", p, e)
			}
		}
	}
}

func TestCheckWrittenOut(t *testing.T) { // P16.1
	for _, q := range []struct {
		p api.Past
		e api.Errno
	}{
		{past(1, noNew, 1, 1, fine), api.OK}, {past(1, noNew, 1, 2, value(5)), api.OK}, {never(1, noNew, 1), api.OK}, {never(0, noNew, 9), api.OK},
		{past(1, noNew, 0, 1, fine), api.ErrPast}, {past(1, noNew, -1, 1, fine), api.ErrPast}, {never(1, noNew, 0), api.ErrPast},
		{past(1, noNew, 2, 1, fine), api.ErrPast}, {past(1, noNew, 2, -1, fine), api.ErrPast}, {past(1, noNew, 1, 0, value(2)), api.ErrPast}, {past(1, noNew, 1, 0, ended), api.ErrPast},
		{past(1, kind(0), 1, 1, fine), api.ErrPast}, {past(1, kind(12), 1, 1, fine), api.ErrPast}, {past(1, api.Call{Kind: 3, Uid: 1}, 1, 1, fine), api.ErrPast}, {api.Past{}, api.ErrPast},
	} {
		if at, e := judge.Check([]api.Past{q.p}); at != 0 || e != q.e {
			t.Errorf("%v: %d, %d", q.p, at, e)
		}
	}
}

func TestCheckOfMany(t *testing.T) { // P16.1
	bad := []api.Past{{}, past(1, noNew, 0, 1, fine), past(1, noNew, 7, 6, fine), past(1, noNew, 7, -1, fine), past(1, noNew, 7, 0, ended), never(1, kind(12), 3), past(1, api.Call{Kind: 6, Uid: 5}, 3, 4, fine)}
	for n := range 64 {
		l := slices.Repeat([]api.Past{past(1, noNew, 1, 2, fine)}, n)
		want := api.OK
		if n > 60 {
			want = api.ErrLong
		}
		if at, e := judge.Check(l); at != 0 || e != want || checks(t, l) != want {
			t.Errorf("%d: %d, %d", n, at, e)
		}
		for first := range n {
			// The one at the end is wrong, too: the first one counts. Of too many nobody asks.
			l := slices.Clone(l)
			l[n-1] = bad[1]
			l[first] = bad[(n+first)%len(bad)]
			wrong, wanted := first, api.ErrPast
			if n > 60 {
				wrong, wanted = 0, api.ErrLong
			}
			if at, e := judge.Check(l); at != wrong || e != wanted || checks(t, l) != wanted {
				t.Errorf("%d, %d: %d, %d", n, first, at, e)
			}
		}
	}
	if at, e := judge.Check(make([]api.Past, 1<<16)); at != 0 || e != api.ErrLong {
		t.Error(at, e)
	}
}

// broken answers models that may not be.
func broken() []api.Model {
	whole := model.Begin()
	l := []api.Model{{}, whole, whole, whole, whole, whole}
	l[1].Next = 0
	l[2].Next = 1<<30 + 1
	l[3].Threads = nil
	l[4].Threads = []api.Confined{{Tid: 1, Cred: api.Cred{Admin: true, Mode: api.ModeFilter}}}
	l[5].Tasks.Pids.Last = -1
	return l
}

func TestModelsThatMayNotBe(t *testing.T) { // P16.3, P16.4
	one, bad := past(1, noNew, 1, 2, fine), past(1, noNew, 0, 2, fine)
	for _, m := range broken() {
		// ErrModel goes ahead of all that is wrong of a history or of an order.
		for _, l := range [][]api.Past{nil, {one}, {bad}, {one, bad}, slices.Repeat([]api.Past{one}, 61)} {
			for _, order := range [][]int{nil, {0}, {1}, {0, 0}} {
				if then, at, e := judge.Judge(m, l, order); !alike(then, api.Model{}) || at != 0 || e != api.ErrModel {
					t.Errorf("Judge of %v, %v from %v on: %v, %d, %d", l, order, m, then, at, e)
				}
			}
			if order, e := judge.Find(m, l); len(order) != 0 || e != api.ErrModel {
				t.Errorf("Find of %v from %v on: %v, %d", l, m, order, e)
			}
		}
	}
}

func TestOrderWrittenOut(t *testing.T) { // P16.2
	// 0 and 1 lap over one another; 2 comes behind both; 3 began then, too, and never ended; 4 begins at the end of 2.
	l := []api.Past{past(1, noNew, 1, 5, fine), past(2, noNew, 2, 3, fine), past(1, noNew, 6, 9, fine), never(3, noNew, 6), past(4, noNew, 9, 12, fine)}
	for _, q := range []struct {
		order []int
		at    int
		e     api.Errno
	}{
		{[]int{0, 1, 2, 3, 4}, 0, api.OK}, {[]int{1, 0, 2, 4}, 0, api.OK}, {[]int{1, 0, 3, 2, 4}, 0, api.OK}, {[]int{0, 1, 4, 2, 3}, 0, api.OK}, {[]int{0, 1, 4, 2}, 0, api.OK},
		{nil, 0, api.ErrOrder}, {[]int{0}, 1, api.ErrOrder}, {[]int{0, 1, 2}, 3, api.ErrOrder}, {[]int{0, 1, 2, 3}, 4, api.ErrOrder}, {[]int{3}, 1, api.ErrOrder},
		{[]int{0, 2, 1, 4}, 2, api.ErrOrder}, {[]int{2, 0, 1, 4}, 1, api.ErrOrder}, {[]int{3, 0, 1, 2, 4}, 1, api.ErrOrder}, {[]int{1, 3, 0, 2, 4}, 2, api.ErrOrder}, {[]int{0, 3, 1, 2, 4}, 2, api.ErrOrder}, {[]int{0, 4, 1, 2}, 2, api.ErrOrder},
		{[]int{0, 1, 2, 4, 5}, 4, api.ErrOrder}, {[]int{-1, 5}, 0, api.ErrOrder}, {[]int{5}, 0, api.ErrOrder}, {[]int{0, 1, math.MaxInt, 2, 4}, 2, api.ErrOrder}, {[]int{math.MinInt}, 0, api.ErrOrder},
		{[]int{0, 0}, 1, api.ErrOrder}, {[]int{0, 1, 0}, 2, api.ErrOrder}, {[]int{0, 1, 3, 2, 4, 3}, 5, api.ErrOrder}, {[]int{0, 1, 2, 2, 7}, 3, api.ErrOrder},
	} {
		if at, e := judge.Order(l, q.order); at != q.at || e != q.e {
			t.Errorf("%v: %d, %d", q.order, at, e)
		}
		judges(t, model.Begin(), l, q.order)
	}
	// Nobody asks for calls that never ended.
	if at, e := judge.Order([]api.Past{never(1, noNew, 1), never(1, noNew, 2)}, nil); at != 0 || e != api.OK {
		t.Error(at, e)
	}
	if at, e := judge.Order([]api.Past{never(1, noNew, 1), never(1, noNew, 2)}, []int{1, 0}); at != 0 || e != api.OK {
		t.Error(at, e)
	}
	if at, e := judge.Order(nil, nil); at != 0 || e != api.OK {
		t.Error(at, e)
	}
}

func TestOrderOfTwo(t *testing.T) { // P16.2
	times := []int{1, 2, 3, 4, math.MaxInt}
	for _, b := range times {
		for _, e := range append(times, 0) {
			for _, c := range times {
				for _, d := range append(times, 0) {
					if e != 0 && e < b || d != 0 && d < c {
						continue
					}
					l := []api.Past{past(1, noNew, b, e, fine), past(1, noNew, c, d, fine)}
					for _, order := range rows(2) {
						judges(t, model.Begin(), l, order)
					}
					// In turn just if the first one had not ended when the second one began.
					at, fault := judge.Order(l, []int{1, 0})
					if in := e == 0 || e >= c; in && (at != 0 || fault != api.OK) || !in && (at != 1 || fault != api.ErrOrder) {
						t.Errorf("%v: %d, %d", l, at, fault)
					}
				}
			}
		}
	}
}

func TestOrderOfManyNumbers(t *testing.T) { // P16.2
	l := slices.Repeat([]api.Past{past(1, noNew, 1, 2, fine)}, 60)
	order := make([]int, 60)
	for at := range order {
		order[at] = 59 - at
	}
	if at, e := judge.Order(l, order); at != 0 || e != api.OK {
		t.Error(at, e)
	}
	if at, e := judge.Order(l, slices.Repeat(order, 20000)); at != 60 || e != api.ErrOrder {
		t.Error(at, e)
	}
	if at, e := judge.Order(l, order[:59]); at != 59 || e != api.ErrOrder {
		t.Error(at, e)
	}
	if at, e := judge.Order(nil, order); at != 0 || e != api.ErrOrder {
		t.Error(at, e)
	}
}

func TestOrdersOfSmallHistories(t *testing.T) { // P16.2, P16.3
	next := chance(1)
	met := map[api.Errno]int{}
	for range 1500 {
		n := next(5)
		var l []api.Past
		for range n {
			l = append(l, past(1+next(3), noNew, 1+next(8), 0, fine))
			if p := &l[len(l)-1]; next(4) > 0 {
				p.Ended = p.Begun + next(4)
			}
		}
		for _, order := range rows(n) {
			met[judges(t, model.Begin(), l, order)]++
		}
		for range 20 {
			var order []int
			for range next(n + 3) {
				order = append(order, next(n+2)-next(12)/11)
			}
			met[judges(t, model.Begin(), l, order)]++
		}
	}
	if met[api.OK] < 1000 || met[api.ErrOrder] < 10000 || met[api.ESRCH] < 1000 || len(met) != 3 {
		t.Error(met)
	}
}

func TestJudgeWrittenOut(t *testing.T) { // P16.3
	l := []api.Past{past(1, fork, 1, 9, value(2)), past(2, wait, 2, 8, failed(api.ECHILD)), past(1, wait, 3, 7, failed(api.EAGAIN)), never(2, exit, 4), never(5, noNew, 1)}
	for _, q := range []struct {
		order []int
		at    int
		e     api.Errno
	}{
		{[]int{0, 1, 2}, 0, api.OK}, {[]int{0, 2, 1}, 0, api.OK}, {[]int{0, 1, 2, 3}, 0, api.OK},
		// 2 is nobody's thread yet, or any more.
		{[]int{1, 0, 2}, 0, api.ESRCH}, {[]int{0, 2, 3, 1}, 3, api.ESRCH}, {[]int{0, 1, 2, 4}, 3, api.ESRCH}, {[]int{3, 0, 1, 2}, 0, api.ESRCH},
		// 1 has no child yet, or waits for none in vain.
		{[]int{2, 0, 1}, 0, api.ErrWrong}, {[]int{0, 1, 3, 2}, 3, api.ErrWrong},
		{[]int{0, 1}, 2, api.ErrOrder}, {[]int{2, 2}, 1, api.ErrOrder},
	} {
		then, at, e := judge.Judge(model.Begin(), l, q.order)
		if at != q.at || e != q.e || (e != api.OK) != alike(then, api.Model{}) {
			t.Errorf("%v: %v, %d, %d", q.order, then, at, e)
		}
		judges(t, model.Begin(), l, q.order)
	}
	then, _, _ := judge.Judge(model.Begin(), l, []int{0, 1, 2, 3})
	want := model.Begin()
	want.Tasks = api.Tasks{Pids: api.Pids{Last: 2, Used: []int{1, 2}}, Procs: []api.Proc{{Pid: 1, Threads: []int{1}}, {Pid: 2, Parent: 1}}}
	if !alike(then, want) {
		t.Error(then)
	}
}

func TestJudgeOfEachField(t *testing.T) { // P16.3: an answer is another one, whichever field it is
	for _, c := range []api.Call{fork, noNew, wait, exit, sys(5), drop(10)} {
		_, a, _ := model.Do(model.Begin(), 1, c)
		for _, other := range []api.Answer{{Err: a.Err + 1, Value: a.Value, Verdict: a.Verdict, Ended: a.Ended}, {Err: a.Err, Value: a.Value + 1, Verdict: a.Verdict, Ended: a.Ended}, {Err: a.Err, Value: a.Value, Verdict: api.Verdict{Action: a.Verdict.Action ^ 1}, Ended: a.Ended}, {Err: a.Err, Value: a.Value, Verdict: api.Verdict{Action: a.Verdict.Action, Data: 1}, Ended: a.Ended}, {Err: a.Err, Value: a.Value, Verdict: a.Verdict, Ended: !a.Ended}} {
			l := []api.Past{past(1, c, 1, 1, a), past(1, c, 1, 1, other)}
			if then, at, e := judge.Judge(model.Begin(), l[1:], []int{0}); !alike(then, api.Model{}) || at != 0 || e != api.ErrWrong {
				t.Errorf("%v: %v, %d, %d", l, then, at, e)
			}
			if then, at, e := judge.Judge(model.Begin(), l[:1], []int{0}); len(then.Tasks.Pids.Used)+then.Tasks.Pids.Last == 0 || at != 0 || e != api.OK {
				t.Errorf("%v: %v, %d, %d", l, then, at, e)
			}
			if order, e := finds(t, model.Begin(), l[1:]); len(order) != 0 || e != api.ErrNone {
				t.Errorf("%v: %v, %d", l, order, e)
			}
			// What never ended may have had any answer.
			if order, e := finds(t, model.Begin(), []api.Past{past(1, c, 1, 1, a), never(1, c, 1)}); !slices.Equal(order, []int{0}) || e != api.OK {
				t.Errorf("%v: %v, %d", l, order, e)
			}
		}
	}
}

func TestStrangeThreads(t *testing.T) { // P16.1, P16.3, P16.4
	for _, tid := range append([]int{2, 20}, strange...) {
		l := []api.Past{past(tid, noNew, 1, 1, fine)}
		if then, at, e := judge.Judge(model.Begin(), l, []int{0}); !alike(then, api.Model{}) || at != 0 || e != api.ESRCH {
			t.Errorf("%d: %v, %d, %d", tid, then, at, e)
		}
		if order, e := finds(t, model.Begin(), l); len(order) != 0 || e != api.ErrNone {
			t.Errorf("%d: %v, %d", tid, order, e)
		}
		if order, e := finds(t, model.Begin(), []api.Past{never(tid, noNew, 1), past(1, noNew, 1, 1, fine)}); !slices.Equal(order, []int{1}) || e != api.OK {
			t.Errorf("%d: %v, %d", tid, order, e)
		}
	}
}

func TestNoCalls(t *testing.T) { // P16.1 to P16.4
	for _, l := range [][]api.Past{nil, {}, {never(1, fork, 1)}, {never(9, fork, 5), never(1, exit, 1)}} {
		if at, e := judge.Check(l); at != 0 || e != api.OK {
			t.Errorf("%v: %d, %d", l, at, e)
		}
		for _, order := range [][]int{nil, {}} {
			if then, at, e := judge.Judge(model.Begin(), l, order); !alike(then, model.Begin()) || at != 0 || e != api.OK {
				t.Errorf("%v: %v, %d, %d", l, then, at, e)
			}
		}
		if order, e := finds(t, model.Begin(), l); len(order) != 0 || e != api.OK {
			t.Errorf("%v: %v, %d", l, order, e)
		}
	}
}
