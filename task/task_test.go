package task_test

import (
	"slices"
	"testing"

	"wicketgate/api"
	"wicketgate/task"
)

// of answers tasks of these processes, in which just the ids are taken that have to be.
func of(last int, procs ...api.Proc) api.Tasks {
	t := api.Tasks{Pids: api.Pids{Last: last}, Procs: procs}
	for _, p := range procs {
		t.Pids.Used = append(append(t.Pids.Used, p.Pid), p.Threads...)
	}
	slices.Sort(t.Pids.Used)
	t.Pids.Used = slices.Compact(t.Pids.Used)
	return t
}

// proc answers a process.
func proc(pid, parent int, threads ...int) api.Proc {
	return api.Proc{Pid: pid, Parent: parent, Threads: threads}
}

// step is a call of a row, and what is asked of it.
type step struct {
	name       string
	id, number int
	e          api.Errno
	then       api.Tasks
}

// goes takes the steps one behind the other, from x on; who is refused leaves x.
func goes(t *testing.T, x api.Tasks, steps []step) {
	t.Helper()
	for i, s := range steps {
		c := calls()[slices.IndexFunc(calls(), func(c call) bool { return c.name == s.name })]
		got, number, e := c.do(x, s.id)
		if !alike(got, s.then) || number != s.number || e != s.e {
			t.Fatalf("step %d, %s(%d): %v, %d, %d, not %v, %d, %d", i, s.name, s.id, got, number, e, s.then, s.number, s.e)
		}
		if e == api.OK {
			x = got
		}
	}
}

func TestExamples(t *testing.T) { // P12.1 to P12.5
	goes(t, task.Begin(), []step{
		{"Fork", 1, 2, api.OK, of(2, proc(1, 0, 1), proc(2, 1, 2))},
		{"Clone", 2, 3, api.OK, of(3, proc(1, 0, 1), proc(2, 1, 2, 3))},
		{"End", 2, 0, api.OK, of(3, proc(1, 0, 1), proc(2, 1, 3))},
		{"Exec", 3, 0, api.OK, of(3, proc(1, 0, 1), proc(2, 1, 2))},
		{"Reap", 1, 0, api.EAGAIN, api.Tasks{}},
		{"End", 2, 0, api.OK, of(3, proc(1, 0, 1), proc(2, 1))},
		{"Reap", 1, 2, api.OK, of(3, proc(1, 0, 1))},
		{"Reap", 1, 0, api.ECHILD, api.Tasks{}},
		{"Fork", 9, 0, api.ESRCH, api.Tasks{}},
		{"Fork", 1, 4, api.OK, of(4, proc(1, 0, 1), proc(4, 1, 4))},
		{"Fork", 4, 5, api.OK, of(5, proc(1, 0, 1), proc(4, 1, 4), proc(5, 4, 5))},
		{"Kill", 4, 0, api.OK, of(5, proc(1, 0, 1), proc(4, 1), proc(5, 1, 5))},
		{"Kill", 4, 0, api.ESRCH, api.Tasks{}},
		{"Kill", 1, 0, api.OK, of(5, proc(5, 0, 5))},
		{"Reap", 5, 0, api.ECHILD, api.Tasks{}},
		{"End", 5, 0, api.OK, of(5)},
		{"End", 5, 0, api.ESRCH, api.Tasks{}},
	})
}

func TestBegin(t *testing.T) { // P12.1
	if x := task.Begin(); !alike(x, of(1, proc(1, 0, 1))) || task.Check(x) != api.OK {
		t.Error(x)
	}
	x := task.Begin()
	x.Procs[0].Threads[0], x.Procs[0].Pid, x.Pids.Used[0] = 7, 8, 9
	if !alike(task.Begin(), of(1, proc(1, 0, 1))) {
		t.Error("what is answered is not new memory")
	}
}

func TestWhoComesToAnotherParent(t *testing.T) { // P12.3
	for i, x := range []struct {
		was  api.Tasks
		pid  int
		then api.Tasks
	}{
		// 1 runs: each child comes to it, ended or not.
		{of(9, proc(1, 0, 1), proc(2, 1, 2), proc(3, 2, 3), proc(4, 2), proc(5, 3, 5)), 2, of(9, proc(1, 0, 1), proc(2, 1), proc(3, 1, 3), proc(4, 1), proc(5, 3, 5))},
		// So it does, if the process has no Parent: it is gone itself.
		{of(9, proc(1, 0, 1), proc(2, 0, 2), proc(3, 2, 3), proc(4, 2)), 2, of(9, proc(1, 0, 1), proc(3, 1, 3), proc(4, 1))},
		// 1 is not there, or has ended, or ends itself: nobody is the Parent, and who has ended is gone.
		{of(9, proc(2, 0, 2), proc(3, 2, 3), proc(4, 2), proc(5, 2, 5)), 2, of(9, proc(3, 0, 3), proc(5, 0, 5))},
		{of(9, proc(1, 5), proc(2, 5, 2), proc(3, 2, 3), proc(4, 2), proc(5, 0, 5)), 2, of(9, proc(1, 5), proc(2, 5), proc(3, 0, 3), proc(5, 0, 5))},
		{of(9, proc(1, 0, 1), proc(2, 1, 2), proc(3, 1), proc(4, 1)), 1, of(9, proc(2, 0, 2))},
		{of(9, proc(1, 5, 1, 7), proc(2, 1, 2), proc(3, 1), proc(5, 0, 5)), 1, of(9, proc(1, 5), proc(2, 0, 2), proc(5, 0, 5))},
		// 1 is itself the child: it has no Parent, its sisters have it.
		{of(9, proc(1, 2, 1), proc(2, 0, 2), proc(3, 2, 3), proc(4, 2)), 2, of(9, proc(1, 0, 1), proc(3, 1, 3), proc(4, 1))},
		// 1 is the child's child, or stands below it further down.
		{of(9, proc(1, 3, 1), proc(2, 0, 2), proc(3, 2, 3), proc(4, 2, 4)), 2, of(9, proc(1, 3, 1), proc(3, 0, 3), proc(4, 1, 4))},
		{of(9, proc(1, 4, 1), proc(2, 6, 2), proc(3, 2, 3), proc(4, 3, 4), proc(5, 2), proc(6, 0, 6)), 2, of(9, proc(1, 4, 1), proc(2, 6), proc(3, 0, 3), proc(4, 3, 4), proc(5, 1), proc(6, 0, 6))},
		// 1 stands below the same one as the process, not below its child.
		{of(9, proc(1, 6, 1), proc(2, 6, 2), proc(3, 2, 3), proc(6, 0, 6)), 2, of(9, proc(1, 6, 1), proc(2, 6), proc(3, 1, 3), proc(6, 0, 6))},
		// 1 is but a thread of another process: it is no process.
		{of(9, proc(2, 0, 2), proc(3, 2, 3), proc(4, 2), proc(5, 0, 1, 5)), 2, of(9, proc(3, 0, 3), proc(5, 0, 1, 5))},
		// All threads' ids are freed.
		{of(9, proc(2, 0, 1, 9, 17)), 2, of(9)},
		{of(9, proc(2, 5, 1, 9, 17), proc(5, 0, 6)), 2, of(9, proc(2, 5), proc(5, 0, 6))},
	} {
		if !mayBe(x.was) || !mayBe(x.then) {
			t.Fatalf("case %d: %v, %v", i, x.was, x.then)
		}
		if got, e := task.Kill(x.was, x.pid); !alike(got, x.then) || e != api.OK {
			t.Errorf("case %d: %v, %d, not %v", i, got, e, x.then)
		}
		// By End of each of its threads it comes to the same.
		got := x.was
		for _, tid := range task.Threads(x.was, x.pid) {
			var e api.Errno
			if got, e = task.End(got, tid); e != api.OK {
				t.Fatalf("case %d, End(%d): %d", i, tid, e)
			}
		}
		if !alike(got, x.then) {
			t.Errorf("case %d: %v, not %v", i, got, x.then)
		}
	}
}

func TestLimitsOfThreadsAndProcesses(t *testing.T) { // P12.1, P12.2
	six := of(16, proc(1, 0, 1), proc(2, 1), proc(3, 1), proc(4, 1), proc(5, 1), proc(6, 1))
	seven := of(16, append(twin(six).Procs, proc(7, 1))...)
	eight := of(16, proc(1, 0, 1, 2, 3, 4, 5, 6, 7), proc(20, 1, 19))
	nine := of(16, proc(1, 0, 1, 2, 3, 4, 5, 6, 7, 8), proc(20, 1, 19))
	both := of(16, proc(1, 0, 11), proc(2, 1, 12), proc(3, 1, 13), proc(4, 1, 14), proc(5, 1, 15), proc(6, 1, 16, 17, 18))
	for i, x := range []struct {
		t    api.Tasks
		name string
		id   int
		e    api.Errno
	}{
		// Who has ended and is not reaped counts.
		{six, "Fork", 1, api.EAGAIN}, {six, "Fork", 2, api.ESRCH}, {six, "Clone", 1, api.OK}, {six, "Reap", 1, api.OK},
		{eight, "Fork", 19, api.EAGAIN}, {eight, "Fork", 20, api.ESRCH}, {eight, "Clone", 4, api.EAGAIN}, {eight, "Clone", 8, api.ESRCH}, {eight, "Exec", 4, api.OK}, {eight, "Reap", 3, api.EAGAIN}, {eight, "Reap", 19, api.ECHILD},
		{both, "Fork", 11, api.EAGAIN}, {both, "Clone", 11, api.EAGAIN}, {both, "Clone", 1, api.ESRCH}, {both, "Exec", 17, api.OK}, {both, "Kill", 1, api.OK}, {both, "Kill", 11, api.ESRCH},
		{seven, "Fork", 1, api.ErrTasks}, {seven, "Reap", 1, api.ErrTasks}, {nine, "Clone", 1, api.ErrTasks}, {nine, "End", 1, api.ErrTasks}, {nine, "Kill", 20, api.ErrTasks}, {nine, "Exec", 9, api.ErrTasks},
	} {
		goes := calls()[slices.IndexFunc(calls(), func(c call) bool { return c.name == x.name })]
		if _, _, e := goes.do(x.t, x.id); e != x.e {
			t.Errorf("case %d, %s(%d): %d, not %d", i, x.name, x.id, e, x.e)
		}
	}
	if !checked(t, six) || !checked(t, eight) || !checked(t, both) || checked(t, seven) || checked(t, nine) {
		t.Error("6 processes and 8 threads may be, no more")
	}
	// Seven threads leave room for one more, five processes for one more.
	if x, id, e := task.Clone(of(3, proc(1, 0, 1, 2, 3, 4, 5, 6, 7)), 7); id != 8 || e != api.OK || task.Check(x) != api.OK {
		t.Error(x, id, e)
	}
	if x, id, e := task.Fork(of(3, proc(1, 0, 7, 8, 9), proc(2, 1), proc(3, 1), proc(4, 1), proc(5, 1)), 9); id != 6 || e != api.OK || task.Check(x) != api.OK {
		t.Error(x, id, e)
	}
}

func TestManyProcessesAndThreads(t *testing.T) { // P12.1, R1
	many := api.Tasks{Procs: make([]api.Proc, 1<<16)}
	for i := range many.Procs {
		many.Procs[i] = api.Proc{Pid: i + 1, Parent: i}
	}
	long := of(1, proc(1, 0, make([]int, 1<<16)...))
	for i := range long.Procs[0].Threads {
		long.Procs[0].Threads[i] = i + 1
	}
	wide := of(1, proc(1, 0, 1))
	wide.Pids.Used = make([]int, 1<<16)
	for _, x := range []api.Tasks{many, long, wide, {Procs: make([]api.Proc, 1<<16)}} {
		if checked(t, x) {
			t.Error("more than there may be")
		}
	}
}

func TestAllSmallOnes(t *testing.T) { // P12.1 to P12.5
	// Each id up to 4 is nothing, a thread of another process, or a process with any Parent, with a thread of its id or without.
	may, ended, below := 0, 0, 0
	for n := range 15 * 15 * 15 * 15 {
		w := told{last: n % 21}
		fits := true
		for id, rest := 1, n; id <= 4; id, rest = id+1, rest/15 {
			digit := rest % 15
			if digit < 5 {
				w.of[id] = digit
				continue
			}
			w.is[id], w.parent[id] = true, digit%5
			if digit >= 10 {
				w.of[id] = id
			}
		}
		for id := 1; id <= 4; id++ {
			fits = fits && (w.of[id] == 0 || w.is[w.of[id]])
		}
		if !fits || !checked(t, w.tasks()) {
			continue
		}
		may++
		holds(t, w, []int{0, 1, 2, 3, 4, 5})
		for id := 1; id <= 4; id++ {
			if w.ended(id) {
				ended++
			}
		}
		if w.parent[1] != 0 {
			below++
		}
	}
	if may < 1500 || ended < 500 || below < 500 {
		t.Error(may, ended, below)
	}
	holds(t, told{}, every())
}

func TestSomeLargerOnes(t *testing.T) { // P12.1 to P12.5
	next := chance(12)
	procs, threads, below := [7]int{}, [9]int{}, 0
	for range 1500 {
		w := some(next, 6)
		p, n := w.count()
		procs[p]++
		threads[n]++
		if w.parent[1] != 0 {
			below++
		}
		holds(t, w, slices.Concat(every(), strange))
	}
	if slices.Min(procs[:]) < 50 || slices.Min(threads[:]) < 40 || below < 200 {
		t.Error(procs, threads, below)
	}
}

func TestCheckOfBrokenOnes(t *testing.T) { // P12.1
	next := chance(13)
	numbers := slices.Concat(every(), strange)
	for range 60 {
		x := some(next, 6).tasks()
		breaks(t, x, func(x *api.Tasks) []*int {
			l := []*int{&x.Pids.Last}
			for at := range x.Pids.Used {
				l = append(l, &x.Pids.Used[at])
			}
			for at := range x.Procs {
				l = append(l, &x.Procs[at].Pid, &x.Procs[at].Parent)
				for i := range x.Procs[at].Threads {
					l = append(l, &x.Procs[at].Threads[i])
				}
			}
			return l
		}, numbers)
		for _, id := range every() {
			more := twin(x)
			more.Pids.Used = append(more.Pids.Used, id)
			slices.Sort(more.Pids.Used)
			if checked(t, more) {
				t.Errorf("%v: %d is nobody's", more, id)
			}
			if at := slices.Index(x.Pids.Used, id); at >= 0 {
				less := twin(x)
				less.Pids.Used = slices.Delete(less.Pids.Used, at, at+1)
				if checked(t, less) {
					t.Errorf("%v: %d is not taken", less, id)
				}
			}
		}
		for at := range x.Procs {
			turned, less, twice, empty := twin(x), twin(x), twin(x), twin(x)
			last := len(x.Procs) - 1
			turned.Procs[at], turned.Procs[last] = turned.Procs[last], turned.Procs[at]
			less.Procs = slices.Delete(less.Procs, at, at+1)
			twice.Procs = slices.Insert(twice.Procs, at, twin(x).Procs[at])
			empty.Procs[at].Threads = nil
			if checked(t, turned) != (at == last) || checked(t, less) || checked(t, twice) {
				t.Errorf("%v, broken at %d", x, at)
			}
			checked(t, empty)
			checked(t, of(x.Pids.Last, less.Procs...))
			checked(t, of(x.Pids.Last, empty.Procs...))
			doubled(t, x, at)
		}
	}
}

// breaks holds Check of x with each of the numbers at each of the places against the chapter's words; with the ids that are taken as they were, and as they have to be then.
func breaks(t *testing.T, x api.Tasks, places func(x *api.Tasks) []*int, numbers []int) {
	t.Helper()
	for at := range places(&x) {
		for _, n := range numbers {
			broken := twin(x)
			*places(&broken)[at] = n
			checked(t, broken)
			checked(t, of(broken.Pids.Last, broken.Procs...))
		}
	}
}

// doubled holds Check of x with a process's threads twice, turned, and beside another's against the chapter's words.
func doubled(t *testing.T, x api.Tasks, at int) {
	t.Helper()
	threads := x.Procs[at].Threads
	for i, tid := range threads {
		twice, turned := twin(x), twin(x)
		twice.Procs[at].Threads = slices.Insert(twice.Procs[at].Threads, i, tid)
		slices.Reverse(turned.Procs[at].Threads)
		if checked(t, twice) || checked(t, turned) != (len(threads) == 1) {
			t.Errorf("%v, at %d, %d twice or turned", x, at, tid)
		}
		for other := range x.Procs {
			shared := twin(x)
			shared.Procs[other].Threads = append(shared.Procs[other].Threads, tid)
			slices.Sort(shared.Procs[other].Threads)
			if checked(t, shared) {
				t.Errorf("%v: %d is of two", shared, tid)
			}
		}
	}
}

func TestCheckOfParents(t *testing.T) { // P12.1
	// A row of six in each order of their ids, and with each Parent of each of them.
	next := chance(14)
	for range 200 {
		order := []int{}
		for id := 1; id <= 6; id++ {
			order = slices.Insert(order, next(id), id)
		}
		w := told{last: 6}
		for at, pid := range order {
			w.is[pid], w.of[pid] = true, pid
			if at > 0 {
				w.parent[pid] = order[at-1]
			}
		}
		if !checked(t, w.tasks()) {
			t.Fatalf("%v", w.tasks())
		}
		for at, pid := range order {
			for to, up := range order {
				other := w
				other.parent[pid] = up
				if checked(t, other.tasks()) != (to < at) {
					t.Errorf("%v", other.tasks())
				}
			}
			dead := w
			dead.of[pid] = 0
			if checked(t, dead.tasks()) != (at == 5) {
				t.Errorf("%v", dead.tasks())
			}
		}
	}
}

func TestMemory(t *testing.T) { // P12.2 to P12.5, R3
	next := chance(15)
	for range 300 {
		whole := some(next, 6).tasks()
		for _, c := range calls() {
			for _, id := range append(slices.Clone(whole.Pids.Used), 0) {
				x, ids, procs := roomy(whole)
				beforeIds, beforeProcs := copies(ids), slices.Clone(procs)
				one, _, _ := c.do(x, id)
				two, _, _ := c.do(x, id)
				want := twin(one)
				for _, l := range lists(two) {
					fill(l)
				}
				clear(two.Procs[:cap(two.Procs)])
				if !slices.EqualFunc(ids, beforeIds, slices.Equal[[]int]) || !alike(api.Tasks{Procs: procs}, api.Tasks{Procs: beforeProcs}) || !alike(one, want) {
					t.Fatalf("%s(%d) of %v: what was handed in, or the other answer, has changed", c.name, id, whole)
				}
				for _, l := range ids {
					fill(l)
				}
				clear(procs)
				if !alike(one, want) {
					t.Fatalf("%s(%d) of %v: the answer has changed: %v", c.name, id, whole, one)
				}
				apart(t, one)
			}
		}
		for _, p := range whole.Procs {
			x, ids, _ := roomy(whole)
			before := copies(ids)
			for _, l := range [][]int{task.Threads(x, p.Pid), task.Children(x, p.Pid), task.Live(x)} {
				fill(l)
			}
			if !slices.EqualFunc(ids, before, slices.Equal[[]int]) {
				t.Fatalf("what is told of %v is not new memory", whole)
			}
		}
	}
}

// fill writes into a list, and into the room behind its end.
func fill(l []int) {
	for at := range l[:cap(l)] {
		l[:cap(l)][at] = -1
	}
}

// copies answers the lists in new memory.
func copies(l [][]int) [][]int {
	var all [][]int
	for _, one := range l {
		all = append(all, slices.Clone(one))
	}
	return all
}

// lists answers all lists of ids that the tasks have.
func lists(x api.Tasks) [][]int {
	l := [][]int{x.Pids.Used}
	for _, p := range x.Procs {
		l = append(l, p.Threads)
	}
	return l
}

// apart holds it that no two lists of the tasks share memory.
func apart(t *testing.T, x api.Tasks) {
	t.Helper()
	for at := range lists(x) {
		l := lists(x)
		before := copies(l)
		fill(l[at])
		for to := range l {
			if to != at && !slices.Equal(l[to], before[to]) {
				t.Fatalf("the lists %d and %d share memory", at, to)
			}
		}
	}
}

func TestToldOfWhatMayNotBe(t *testing.T) { // P12.5
	// The Pids fall, one is there twice, threads are of two processes and do not rise.
	x := api.Tasks{Procs: []api.Proc{proc(9, 3, 7, 5), proc(3, 0), proc(4, 3, 5, 5, 30), proc(9, 0, 1), proc(2, -1, -6, 0), proc(1, 3, 1)}}
	if l := task.Live(x); !slices.Equal(l, []int{-6, 0, 1, 5, 7, 30}) {
		t.Error(l)
	}
	for i, want := range map[int]int{-6: 2, 0: 2, 1: 9, 5: 9, 7: 9, 30: 4} {
		if pid, ok := task.Of(x, i); pid != want || !ok {
			t.Errorf("Of(%d): %d, %t", i, pid, ok)
		}
	}
	for i, want := range map[int][]int{9: {7, 5}, 3: {}, 4: {5, 5, 30}, 2: {-6, 0}, 1: {1}, 0: nil, 5: nil, -1: nil} {
		if l := task.Threads(x, i); !slices.Equal(l, want) {
			t.Errorf("Threads(%d): %v", i, l)
		}
	}
	for i, want := range map[int][]int{3: {1, 4, 9}, -1: {2}, 0: nil, 9: nil, 4: nil} {
		if l := task.Children(x, i); !slices.Equal(l, want) {
			t.Errorf("Children(%d): %v", i, l)
		}
	}
	if pid, ok := task.Of(x, 9); pid != 0 || ok {
		t.Error(pid, ok)
	}
	if checked(t, x) || !task.Same(x, twin(x)) || task.Same(x, api.Tasks{}) {
		t.Error("it may not be, and is the same as itself")
	}
}

func TestSame(t *testing.T) { // P12.5
	var l []api.Tasks
	for _, ids := range []api.Pids{{}, {Last: 1}, {Last: 1, Used: []int{1}}, {Used: []int{1}}, {Used: []int{1, 2}}} {
		for _, procs := range [][]api.Proc{nil, {proc(1, 0, 1)}, {proc(1, 0)}, {proc(1, 2, 1)}, {proc(2, 0, 1)}, {proc(1, 0, 2)}, {proc(1, 0, 1, 2)}, {proc(1, 0, 2, 1)}, {proc(1, 0, 1), proc(2, 1)}, {proc(2, 1), proc(1, 0, 1)}, {proc(1, 0, 1), proc(1, 0, 1)}, {{}}} {
			l = append(l, api.Tasks{Pids: ids, Procs: procs})
		}
	}
	for i, a := range l {
		for j, b := range l {
			if is := task.Same(a, twin(b)); is != (i == j) {
				t.Errorf("Same of %v and %v: %t", a, b, is)
			}
		}
		if x, _, _ := roomy(a); !task.Same(x, a) || !task.Same(a, x) {
			t.Errorf("%v: the room behind an end is asked", a)
		}
	}
	one := api.Tasks{Pids: api.Pids{Used: []int{}}, Procs: []api.Proc{{Pid: 1, Threads: []int{}}}}
	two := api.Tasks{Procs: []api.Proc{{Pid: 1}}}
	if !task.Same(one, two) || !task.Same(two, one) || !task.Same(api.Tasks{}, api.Tasks{Procs: []api.Proc{}}) {
		t.Error("nil and empty are one")
	}
}

func TestWhatFollows(t *testing.T) { // P12.6
	done, round, late := map[string]int{}, 0, 0
	for seed := range uint64(700) {
		next := chance(seed)
		x := task.Begin()
		for range 160 {
			live := task.Live(x)
			if len(live) == 0 {
				break
			}
			// More begin than end, so that there are many of them, and the ids go round.
			name := []string{"Fork", "Fork", "Fork", "Clone", "Clone", "Exec", "End", "End", "Kill", "Reap", "Reap", "Reap"}[next(12)]
			c := calls()[slices.IndexFunc(calls(), func(c call) bool { return c.name == name })]
			id := live[next(len(live))]
			if name == "Kill" {
				id = x.Procs[next(len(x.Procs))].Pid
			}
			y, number, e := c.do(x, id)
			if e != api.OK {
				continue
			}
			done[name]++
			follows(t, name, id, number, x, y)
			if name == "Fork" && number == 1 {
				late++
			}
			if y.Pids.Last < x.Pids.Last {
				round++
			}
			x = y
		}
	}
	for _, c := range calls() {
		if done[c.name] < 500 {
			t.Errorf("%s: %d times", c.name, done[c.name])
		}
	}
	if round < 200 || late < 50 {
		t.Error(round, late)
	}
}

// follows holds what has come of x, by a call that answered the number, against what the chapter says that it comes to.
func follows(t *testing.T, name string, id, number int, x, y api.Tasks) {
	t.Helper()
	fail := func(what string) {
		t.Helper()
		t.Fatalf("%s(%d) of %v: %v, %d: %s", name, id, x, y, number, what)
	}
	if task.Check(y) != api.OK || !mayBe(y) {
		fail("it may not be")
	}
	own, _ := task.Of(x, id)
	if name == "Kill" {
		own = id
	}
	before, after := len(task.Live(x)), len(task.Live(y))
	switch name {
	case "Fork", "Clone":
		pid, _ := task.Of(y, number)
		if after != before+1 || slices.Contains(x.Pids.Used, number) || y.Pids.Last != number || (pid == number) != (name == "Fork") || name == "Clone" && pid != own {
			fail("it is not one thread more")
		}
	case "Exec":
		if !slices.Equal(task.Threads(y, own), []int{own}) {
			fail("it is not alone")
		}
	case "End":
		if after != before-1 || slices.Contains(task.Live(y), id) {
			fail("it is not one thread less")
		}
	case "Kill":
		if len(task.Threads(y, own)) != 0 {
			fail("it has not ended")
		}
	case "Reap":
		if slices.Contains(y.Pids.Used, number) || !slices.Contains(task.Children(x, own), number) || len(task.Threads(x, number)) != 0 {
			fail("it is not reaped")
		}
	}
	for _, p := range x.Procs {
		if l := task.Threads(y, p.Pid); p.Pid != own && !slices.Equal(l, p.Threads) {
			fail("another process's threads have changed")
		}
	}
	for _, p := range y.Procs {
		was := slices.IndexFunc(x.Procs, func(q api.Proc) bool { return q.Pid == p.Pid })
		if was < 0 && (name != "Fork" || p.Pid != number || p.Parent != own) {
			fail("a process has come from nowhere")
		}
		if was >= 0 && p.Parent != x.Procs[was].Parent && (x.Procs[was].Parent != own || p.Parent != 0 && p.Parent != 1) {
			fail("another Parent has come from nowhere")
		}
	}
}

func TestWhoHasEndedIsReapedOnce(t *testing.T) { // P12.4, P12.6
	x := of(9, proc(1, 0, 8, 9), proc(2, 1), proc(3, 1, 3), proc(4, 3), proc(5, 1), proc(7, 1, 7))
	for _, want := range []int{2, 5} {
		y, pid, e := task.Reap(x, 9)
		if pid != want || e != api.OK || !mayBe(y) || len(y.Procs) != len(x.Procs)-1 {
			t.Fatal(y, pid, e)
		}
		x = y
	}
	if y, pid, e := task.Reap(x, 9); !alike(y, api.Tasks{}) || pid != 0 || e != api.EAGAIN {
		t.Error(y, pid, e)
	}
	// Of another's children nobody is reaped.
	if y, pid, e := task.Reap(x, 7); !alike(y, api.Tasks{}) || pid != 0 || e != api.ECHILD {
		t.Error(y, pid, e)
	}
	if y, pid, e := task.Reap(x, 3); pid != 4 || e != api.OK || !alike(y, of(9, proc(1, 0, 8, 9), proc(3, 1, 3), proc(7, 1, 7))) {
		t.Error(y, pid, e)
	}
	// A Pid whose thread has ended is no thread.
	if y, pid, e := task.Reap(x, 1); !alike(y, api.Tasks{}) || pid != 0 || e != api.ESRCH {
		t.Error(y, pid, e)
	}
}
