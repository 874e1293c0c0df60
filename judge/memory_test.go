package judge_test

import (
	"slices"
	"testing"

	"wicketgate/api"
	"wicketgate/judge"
	"wicketgate/model"
)

// roomy answers m in lists with room behind their ends, and what answers all of that room, in new memory.
func roomy(m api.Model) (api.Model, func() api.Model) {
	wide := func(l []int) []int { return slices.Concat(l, []int{-7, -8}) }
	// rest takes each list in a list, to its very end.
	var rest api.Model
	keep := func(l []int) {
		rest.Tasks.Procs = append(rest.Tasks.Procs, api.Proc{Threads: l})
	}
	confine := func(l []api.Filter) {
		rest.Threads = append(rest.Threads, api.Confined{Filters: l})
	}
	used := wide(m.Tasks.Pids.Used)
	keep(used)
	var procs []api.Proc
	for _, p := range m.Tasks.Procs {
		l := wide(p.Threads)
		keep(l)
		p.Threads = l[:len(p.Threads)]
		procs = append(procs, p)
	}
	procs = append(procs, api.Proc{Pid: -4}, api.Proc{Pid: -5})
	var threads []api.Confined
	for _, x := range m.Threads {
		var l []api.Filter
		for _, f := range x.Filters {
			p := slices.Concat(f.Program, []api.Insn{{Code: 9}, {Code: 8}})
			confine([]api.Filter{{Program: p}})
			l = append(l, api.Filter{Num: f.Num, Program: p[:len(f.Program)]})
		}
		l = append(l, api.Filter{Num: -3}, api.Filter{Num: -4})
		confine(l)
		x.Filters = l[:len(x.Filters)]
		threads = append(threads, x)
	}
	threads = append(threads, api.Confined{Tid: -6}, api.Confined{Tid: -7})
	x := m
	x.Tasks.Pids.Used, x.Tasks.Procs, x.Threads = used[:len(m.Tasks.Pids.Used)], procs[:len(m.Tasks.Procs)], threads[:len(m.Threads)]
	return x, func() api.Model {
		return twin(api.Model{
			Tasks:   api.Tasks{Procs: slices.Concat(procs, rest.Tasks.Procs)},
			Threads: slices.Concat(threads, rest.Threads),
		})
	}
}

// spoil writes into all lists of m, and into the room behind their ends.
func spoil(m api.Model) {
	for _, x := range m.Threads {
		spoilThread(x)
	}
	for _, p := range m.Tasks.Procs {
		clear(p.Threads[:cap(p.Threads)])
	}
	clear(m.Threads[:cap(m.Threads)])
	clear(m.Tasks.Procs[:cap(m.Tasks.Procs)])
	clear(m.Tasks.Pids.Used[:cap(m.Tasks.Pids.Used)])
}

func spoilThread(x api.Confined) {
	for _, f := range x.Filters {
		clear(f.Program[:cap(f.Program)])
	}
	clear(x.Filters[:cap(x.Filters)])
}

// apart holds it of an answer that no two lists of it share memory. The answer is spoilt behind it.
func apart(t *testing.T, m api.Model) {
	t.Helper()
	want := twin(m)
	for at := range m.Threads {
		x := m.Threads[at]
		for i, f := range x.Filters {
			clear(f.Program[:cap(f.Program)])
			want.Threads[at].Filters[i].Program = make([]api.Insn, len(f.Program))
			if !alike(m, want) {
				t.Fatalf("the programs of %d share memory", x.Tid)
			}
		}
		clear(x.Filters[:cap(x.Filters)])
		want.Threads[at].Filters = make([]api.Filter, len(x.Filters))
		if !alike(m, want) {
			t.Fatalf("the lists of %d share memory", x.Tid)
		}
	}
	for at := range m.Tasks.Procs {
		p := m.Tasks.Procs[at]
		clear(p.Threads[:cap(p.Threads)])
		want.Tasks.Procs[at].Threads = make([]int, len(p.Threads))
		if !alike(m, want) {
			t.Fatalf("the threads of %d share memory", p.Pid)
		}
	}
	clear(m.Tasks.Pids.Used[:cap(m.Tasks.Pids.Used)])
	want.Tasks.Pids.Used = make([]int, len(want.Tasks.Pids.Used))
	if !alike(m, want) {
		t.Fatal("the ids share memory")
	}
}

// alikePasts says whether both histories are the same.
func alikePasts(k, l []api.Past) bool {
	return slices.EqualFunc(k, l, func(p, q api.Past) bool {
		c, d := p.Call, q.Call
		return p.Tid == q.Tid && p.Begun == q.Begun && p.Ended == q.Ended && p.Answer == q.Answer &&
			c.Kind == d.Kind && c.Flags == d.Flags && c.Uid == d.Uid && c.File == d.File && c.Data == d.Data && slices.Equal(c.Bytes, d.Bytes)
	})
}

// roomyPasts answers a history in lists with room behind their ends, and all of that room but that behind its own end.
func roomyPasts(l []api.Past) (short, whole []api.Past) {
	whole = slices.Concat(l, []api.Past{past(-5, kind(-5), -5, -5, fine), past(-6, kind(-6), -6, -6, fine)})
	for at := range whole {
		whole[at].Call.Bytes = slices.Concat(whole[at].Call.Bytes, []byte{1, 2, 3})
	}
	short = slices.Clone(whole)
	for at, p := range l {
		short[at].Call.Bytes = short[at].Call.Bytes[:len(p.Call.Bytes)]
	}
	return short[:len(l)], whole
}

// twinPasts answers a history in new memory.
func twinPasts(l []api.Past) []api.Past {
	l = slices.Clone(l)
	for at := range l {
		l[at].Call.Bytes = slices.Clone(l[at].Call.Bytes)
	}
	return l
}

func TestWhatIsHandedInStays(t *testing.T) { // P16.1 to P16.4, R3
	for seed := range uint64(200) {
		next := chance(seed + 20000)
		x := makes(next, some(next, 30), next(30), 12, 6)
		m, room := roomy(x.from)
		l, whole := roomyPasts(x.l)
		row := slices.Concat(x.order, []int{-1, 0, 99})
		order := row[:len(x.order)]
		before, pasts, short, kept := room(), twinPasts(whole), twinPasts(l[:cap(l)]), slices.Clone(row)
		stays := func() {
			t.Helper()
			if !alike(room(), before) || !alikePasts(whole, pasts) || !alikePasts(l[:cap(l)], short) || !slices.Equal(row, kept) || !alike(m, x.from) {
				t.Fatalf("%v, %v from %v on: what was handed in has changed", x.l, x.order, x.from)
			}
		}
		if at, e := judge.Check(l); at != 0 || e != api.OK {
			t.Fatalf("Check of %v: %d, %d", l, at, e)
		}
		if at, e := judge.Order(l, order); at != 0 || e != api.OK {
			t.Fatalf("Order of %v, %v: %d, %d", l, order, at, e)
		}
		stays()
		then, at, e := judge.Judge(m, l, order)
		if at != 0 || e != api.OK || !alike(then, x.to) {
			t.Fatalf("Judge of %v, %v from %v on: %v, %d, %d", l, order, x.from, then, at, e)
		}
		finding, e := judge.Find(m, l)
		want, _, wanted := found(x.from, x.l)
		if !slices.Equal(finding, want) || e != wanted {
			t.Fatalf("Find of %v from %v on: %v, %d", l, x.from, finding, e)
		}
		stays()
		// What is answered is new memory.
		again, _, _ := judge.Judge(m, l, order)
		spoil(again)
		clear(finding[:cap(finding)])
		stays()
		if !alike(then, x.to) {
			t.Fatalf("two answers share memory: %v, not %v", then, x.to)
		}
		// What was handed in is not kept.
		spoil(m)
		for _, p := range l[:cap(l)] {
			clear(p.Call.Bytes[:cap(p.Call.Bytes)])
		}
		clear(l[:cap(l)])
		clear(row)
		if !alike(then, x.to) {
			t.Fatalf("Judge keeps what was handed in: %v, not %v", then, x.to)
		}
		apart(t, then)
	}
}

func TestNothingDoneIsNewMemory(t *testing.T) { // P16.3, R3
	for seed := range uint64(200) {
		next := chance(seed + 30000)
		whole := some(next, 60)
		m, room := roomy(whole)
		before := room()
		for _, q := range []struct {
			l     []api.Past
			order []int
		}{
			{nil, nil}, {[]api.Past{never(1, fork, 1)}, nil},
			// Calls that leave all as it was.
			{[]api.Past{never(whole.Threads[0].Tid, attach(-1, allow), 1)}, []int{0}}, {[]api.Past{past(whole.Threads[0].Tid, attach(4, allow), 1, 1, failed(api.EINVAL))}, []int{0}},
		} {
			then, at, e := judge.Judge(m, q.l, q.order)
			if at != 0 || e != api.OK || !alike(then, whole) {
				t.Fatalf("Judge of %v, %v from %v on: %v, %d, %d", q.l, q.order, whole, then, at, e)
			}
			apart(t, then)
			then, _, _ = judge.Judge(m, q.l, q.order)
			spoil(then)
			if !alike(m, whole) || !alike(room(), before) {
				t.Fatalf("%v: the answer is not new memory", whole)
			}
		}
	}
}

func TestSameAnswersAgain(t *testing.T) { // P16.4, R5
	for seed := range uint64(40) {
		next := chance(seed + 40000)
		x := makes(next, model.Begin(), 20, 35, 6)
		order, e := judge.Find(x.from, x.l)
		for range 10 {
			if again, is := judge.Find(x.from, x.l); !slices.Equal(again, order) || is != e {
				t.Fatalf("Find of %v: %v, %d, and then %v, %d", x.l, order, e, again, is)
			}
		}
	}
}
