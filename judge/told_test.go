package judge_test

import (
	"math"
	"slices"
	"testing"

	"wicketgate/api"
	"wicketgate/insn"
	"wicketgate/judge"
	"wicketgate/model"
)

// What the chapter's words say is told again here: of an order each two are held against one another, of a search rows are gone through as numbers are counted up, and of a small history all its rows are done from the beginning on.

// wrongly says whether a call is not as the chapter's words have it.
func wrongly(p api.Past) bool {
	if p.Begun < 1 || model.CheckCall(p.Call) == api.ErrCall {
		return true
	}
	if p.Ended == 0 {
		return p.Answer.Err != 0 || p.Answer.Value != 0 || p.Answer.Verdict.Action != 0 || p.Answer.Verdict.Data != 0 || p.Answer.Ended
	}
	return !(p.Ended >= p.Begun)
}

// checked answers what Check answers.
func checked(l []api.Past) (int, api.Errno) {
	if len(l) >= 61 {
		return 0, api.ErrLong
	}
	for at, p := range l {
		if wrongly(p) {
			return at, api.ErrPast
		}
	}
	return 0, api.OK
}

// ordered answers what Order answers of a history that may be: each two of the order are held against one another.
func ordered(l []api.Past, order []int) (int, api.Errno) {
	if len(order) > 100 {
		// Of so many one stands there twice: what is behind it need not be asked.
		order = order[:100]
	}
	first := len(order)
	for i := range order {
		if order[i] < 0 || order[i] >= len(l) {
			first = min(first, i)
		}
	}
	for i := range first {
		for j := i + 1; j < first; j++ {
			ahead, behind := l[order[i]], l[order[j]]
			if order[i] == order[j] || behind.Ended != 0 && behind.Ended < ahead.Begun {
				first = j
			}
		}
	}
	if first < len(order) {
		return first, api.ErrOrder
	}
	for place, p := range l {
		if p.Ended != 0 && !slices.Contains(order, place) {
			return len(order), api.ErrOrder
		}
	}
	return 0, api.OK
}

// gone does the calls at these places, one behind the other, and answers how many of them went, and what the next one does not: an error.
func gone(m api.Model, l []api.Past, order []int) (api.Model, int, api.Errno) {
	for at, place := range order {
		then, a, e := model.Do(m, l[place].Tid, l[place].Call)
		if e != api.OK {
			return m, at, e
		}
		if l[place].Ended != 0 && a != l[place].Answer {
			return m, at, api.ErrWrong
		}
		m = then
	}
	return m, len(order), api.OK
}

// judged answers what Judge answers of a model that may be.
func judged(m api.Model, l []api.Past, order []int) (api.Model, int, api.Errno) {
	at, e := checked(l)
	if e == api.OK {
		at, e = ordered(l, order)
	}
	if e != api.OK {
		return api.Model{}, at, e
	}
	then, at, e := gone(m, l, order)
	if e != api.OK {
		return api.Model{}, at, e
	}
	return then, 0, api.OK
}

// left answers the places that do not stand in the order, rising.
func left(l []api.Past, order []int) []int {
	var out []int
	for place := range l {
		if !slices.Contains(order, place) {
			out = append(out, place)
		}
	}
	return out
}

// isOver says whether no call is left that ended.
func isOver(l []api.Past, order []int) bool {
	return !slices.ContainsFunc(left(l, order), func(place int) bool { return l[place].Ended != 0 })
}

// canBeNext says whether the call at the place can be the next one behind the order.
func canBeNext(l []api.Past, order []int, place int) bool {
	for _, other := range left(l, order) {
		if l[other].Ended != 0 && l[other].Ended < l[place].Begun {
			return false
		}
	}
	return !slices.Contains(order, place)
}

// found answers what Find answers of a model and a history that may be, and how many calls are done. Rows of places are gone through as numbers are counted up, with the models behind all their calls.
func found(m api.Model, l []api.Past) ([]int, int, api.Errno) {
	var order []int
	models := []api.Model{m}
	done, least := 0, 0
	for !isOver(l, order) {
		n := len(order)
		place := least
		for place < len(l) && !canBeNext(l, order, place) {
			place++
		}
		if place == len(l) {
			if n == 0 {
				return nil, done, api.ErrNone
			}
			least = order[n-1] + 1
			order, models = order[:n-1], models[:n]
			continue
		}
		if done == 2000 {
			return nil, done, api.ErrSearch
		}
		done++
		least = place + 1
		if then, _, e := gone(models[n], l, []int{place}); e == api.OK {
			order, models, least = append(order, place), append(models, then), 0
		}
	}
	return order, done, api.OK
}

// rows answers all rows of unlike numbers below n, each ahead of those that go on from it, and else by the first number that is another one.
func rows(n int) [][]int {
	out := [][]int{{}}
	for at := 0; at < len(out); at++ {
		for x := range n {
			if !slices.Contains(out[at], x) {
				out = append(out, append(slices.Clone(out[at]), x))
			}
		}
	}
	slices.SortFunc(out, slices.Compare)
	return out
}

// firstRow answers what Find answers of a small history, if it is not given up: of all orders that can be, that go, and that end with a call that ended, the first one.
func firstRow(m api.Model, l []api.Past) ([]int, api.Errno) {
	for _, order := range rows(len(l)) {
		if _, e := ordered(l, order); e != api.OK {
			continue
		}
		if n := len(order); n > 0 && l[order[n-1]].Ended == 0 {
			continue
		}
		if _, n, _ := gone(m, l, order); n == len(order) {
			return order, api.OK
		}
	}
	return nil, api.ErrNone
}

// finds holds Find against the chapter's words, and answers what it tells.
func finds(t *testing.T, m api.Model, l []api.Past) ([]int, api.Errno) {
	t.Helper()
	want, _, wanted := found(m, l)
	order, e := judge.Find(m, l)
	if !slices.Equal(order, want) || e != wanted {
		t.Fatalf("Find of %v from %v on: %v, %d, not %v, %d", l, m, order, e, want, wanted)
	}
	if len(l) <= 5 {
		if first, is := firstRow(m, l); !slices.Equal(order, first) || e != is {
			t.Fatalf("Find of %v from %v on: %v, %d, not %v, %d", l, m, order, e, first, is)
		}
	}
	if e != api.OK {
		return order, e
	}
	// What Find finds goes.
	then, at, e := judge.Judge(m, l, order)
	if behind, _, _ := gone(m, l, order); at != 0 || e != api.OK || !alike(then, behind) {
		t.Fatalf("Judge of %v, %v from %v on: %v, %d, %d", l, order, m, then, at, e)
	}
	return order, api.OK
}

// judges holds Order and Judge of a history that may be against the chapter's words, and answers the error that Judge tells.
func judges(t *testing.T, m api.Model, l []api.Past, order []int) api.Errno {
	t.Helper()
	want, wanted := ordered(l, order)
	if at, e := judge.Order(l, order); at != want || e != wanted {
		t.Fatalf("Order of %v, %v: %d, %d, not %d, %d", l, order, at, e, want, wanted)
	}
	behind, want, wanted := judged(m, l, order)
	then, at, e := judge.Judge(m, l, order)
	if at != want || e != wanted || !alike(then, behind) {
		t.Fatalf("Judge of %v, %v from %v on: %v, %d, %d, not %v, %d, %d", l, order, m, then, at, e, behind, want, wanted)
	}
	return e
}

// checks holds Check against the chapter's words, and of what may not be all other calls, too.
func checks(t *testing.T, l []api.Past) api.Errno {
	t.Helper()
	want, wanted := checked(l)
	if at, e := judge.Check(l); at != want || e != wanted {
		t.Fatalf("Check of %v: %d, %d, not %d, %d", l, at, e, want, wanted)
	}
	if wanted == api.OK {
		return wanted
	}
	for _, order := range [][]int{nil, {0}, {-1}, {0, 0}, {len(l)}} {
		if at, e := judge.Order(l, order); at != want || e != wanted {
			t.Fatalf("Order of %v, %v: %d, %d, not %d, %d", l, order, at, e, want, wanted)
		}
		if then, at, e := judge.Judge(model.Begin(), l, order); at != want || e != wanted || !alike(then, api.Model{}) {
			t.Fatalf("Judge of %v, %v: %v, %d, %d, not %d, %d", l, order, then, at, e, want, wanted)
		}
	}
	if order, e := judge.Find(model.Begin(), l); len(order) != 0 || e != wanted {
		t.Fatalf("Find of %v: %v, %d, not %d", l, order, e, wanted)
	}
	return wanted
}

// alike says whether both are the same.
func alike(a, b api.Model) bool {
	s, t := a.Tasks, b.Tasks
	return a.Next == b.Next && s.Pids.Last == t.Pids.Last && slices.Equal(s.Pids.Used, t.Pids.Used) &&
		slices.EqualFunc(s.Procs, t.Procs, func(p, q api.Proc) bool {
			return p.Pid == q.Pid && p.Parent == q.Parent && slices.Equal(p.Threads, q.Threads)
		}) &&
		slices.EqualFunc(a.Threads, b.Threads, func(x, y api.Confined) bool {
			return x.Tid == y.Tid && x.Cred == y.Cred && slices.EqualFunc(x.Filters, y.Filters, func(f, g api.Filter) bool {
				return f.Num == g.Num && slices.Equal(f.Program, g.Program)
			})
		})
}

// twin answers m in new memory.
func twin(m api.Model) api.Model {
	x := api.Model{Next: m.Next}
	x.Tasks.Pids = api.Pids{Last: m.Tasks.Pids.Last, Used: append([]int(nil), m.Tasks.Pids.Used...)}
	for _, p := range m.Tasks.Procs {
		p.Threads = append([]int(nil), p.Threads...)
		x.Tasks.Procs = append(x.Tasks.Procs, p)
	}
	for _, one := range m.Threads {
		var l []api.Filter
		for _, f := range one.Filters {
			l = append(l, api.Filter{Num: f.Num, Program: append([]api.Insn(nil), f.Program...)})
		}
		one.Filters = l
		x.Threads = append(x.Threads, one)
	}
	return x
}

// past answers a call of a history.
func past(tid int, c api.Call, begun, ended int, a api.Answer) api.Past {
	return api.Past{Tid: tid, Call: c, Begun: begun, Ended: ended, Answer: a}
}

// never answers a call that never ended.
func never(tid int, c api.Call, begun int) api.Past {
	return past(tid, c, begun, 0, api.Answer{})
}

// kind answers a call of which no field counts.
func kind(n int) api.Call {
	return api.Call{Kind: n}
}

// drop, exec, sys and attach answer calls.
func drop(uid int) api.Call {
	return api.Call{Kind: api.CallDrop, Uid: uid}
}

func exec(owner int, setUid bool) api.Call {
	return api.Call{Kind: api.CallExec, File: api.File{Owner: owner, SetUid: setUid}}
}

func sys(nr uint32) api.Call {
	return api.Call{Kind: api.CallSys, Data: api.Data{Nr: nr, Arch: api.ArchOne}}
}

func attach(flags int, word uint32) api.Call {
	return api.Call{Kind: api.CallAttach, Flags: flags, Bytes: insn.Encode(api.Insn{Code: 0x06, K: word})}
}

// value and failed answer answers.
func value(n int) api.Answer {
	return api.Answer{Value: n}
}

func failed(e api.Errno) api.Answer {
	return api.Answer{Err: e}
}

// Some calls and answers.
var (
	noNew, fork, clone, wait, exit = kind(api.CallNoNew), kind(api.CallFork), kind(api.CallClone), kind(api.CallWait), kind(api.CallExit)
	fine, ended                    = api.Answer{}, api.Answer{Ended: true}
)

// The words that filters of these tests return.
const (
	allow       = 0x7fff0000
	errno       = 0x00050000
	killThread  = 0x00000000
	killProcess = 0x80000000
)

// strange are numbers that are no ids, no places and no times.
var strange = []int{0, -1, 21, -2, 64, 256, math.MinInt, -1 << 32, 1 << 32, 1<<32 + 1, math.MaxInt}

// chance answers a function that answers numbers below n, mixed by the seed.
func chance(seed uint64) func(n int) int {
	return func(n int) int {
		seed = seed*6364136223846793005 + 1442695040888963407
		return int(seed >> 33 % uint64(n))
	}
}
