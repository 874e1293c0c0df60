package task_test

import (
	"math"
	"slices"
	"testing"

	"wicketgate/api"
	"wicketgate/task"
)

// told is processes and threads as the tests go along with them: of each id whether it is a process's, that one's Parent, and of which process the id is a thread (0: of none).
type told struct {
	last   int
	is     [21]bool
	parent [21]int
	of     [21]int
}

// tasks answers them as a value.
func (w told) tasks() api.Tasks {
	t := api.Tasks{Pids: api.Pids{Last: w.last}}
	for id := 1; id <= 20; id++ {
		if w.is[id] {
			t.Procs = append(t.Procs, api.Proc{Pid: id, Parent: w.parent[id], Threads: w.threads(id)})
		}
		if w.is[id] || w.of[id] != 0 {
			t.Pids.Used = append(t.Pids.Used, id)
		}
	}
	return t
}

// threads answers the ids of a process's threads.
func (w told) threads(pid int) []int {
	var l []int
	for id := 1; id <= 20; id++ {
		if w.of[id] == pid {
			l = append(l, id)
		}
	}
	return l
}

// ended says whether a process is there and has ended.
func (w told) ended(pid int) bool {
	return w.is[pid] && len(w.threads(pid)) == 0
}

// count answers how many processes and how many threads there are.
func (w told) count() (procs, threads int) {
	for id := 1; id <= 20; id++ {
		if w.is[id] {
			procs++
		}
		if w.of[id] != 0 {
			threads++
		}
	}
	return procs, threads
}

// thread says whether there is such a thread.
func (w told) thread(tid int) bool {
	return tid >= 1 && tid <= 20 && w.of[tid] != 0
}

// take answers the next id.
func (w *told) take() int {
	id := w.last%20 + 1
	for w.is[id] || w.of[id] != 0 {
		id = id%20 + 1
	}
	w.last = id
	return id
}

func (w *told) fork(tid int) (int, api.Errno) {
	procs, threads := w.count()
	if !w.thread(tid) {
		return 0, api.ESRCH
	}
	if threads >= 8 || procs >= 6 {
		return 0, api.EAGAIN
	}
	id := w.take()
	w.is[id], w.parent[id], w.of[id] = true, w.of[tid], id
	return id, api.OK
}

func (w *told) clone(tid int) (int, api.Errno) {
	_, threads := w.count()
	if !w.thread(tid) {
		return 0, api.ESRCH
	}
	if threads >= 8 {
		return 0, api.EAGAIN
	}
	id := w.take()
	w.of[id] = w.of[tid]
	return id, api.OK
}

func (w *told) exec(tid int) (int, api.Errno) {
	if !w.thread(tid) {
		return 0, api.ESRCH
	}
	pid := w.of[tid]
	for _, one := range w.threads(pid) {
		w.of[one] = 0
	}
	w.of[pid] = pid
	return 0, api.OK
}

func (w *told) end(tid int) (int, api.Errno) {
	if !w.thread(tid) {
		return 0, api.ESRCH
	}
	pid := w.of[tid]
	w.of[tid] = 0
	if w.ended(pid) {
		w.over(pid)
	}
	return 0, api.OK
}

func (w *told) kill(pid int) (int, api.Errno) {
	if pid < 1 || pid > 20 || !w.is[pid] || w.ended(pid) {
		return 0, api.ESRCH
	}
	for _, one := range w.threads(pid) {
		w.of[one] = 0
	}
	w.over(pid)
	return 0, api.OK
}

// over does what comes of a process's end, as the chapter's words tell it.
func (w *told) over(pid int) {
	var aboveOne [21]bool
	if w.is[1] {
		for id := 1; id != 0; id = w.parent[id] {
			aboveOne[id] = true
		}
	}
	first := w.is[1] && !w.ended(1)
	var gone []int
	for child := 1; child <= 20; child++ {
		if !w.is[child] || w.parent[child] != pid {
			continue
		}
		w.parent[child] = 0
		if first && !aboveOne[child] {
			w.parent[child] = 1
		} else if w.ended(child) {
			gone = append(gone, child)
		}
	}
	if w.parent[pid] == 0 {
		gone = append(gone, pid)
	}
	for _, id := range gone {
		w.is[id], w.parent[id] = false, 0
	}
}

func (w *told) reap(tid int) (int, api.Errno) {
	if !w.thread(tid) {
		return 0, api.ESRCH
	}
	children := 0
	for child := 1; child <= 20; child++ {
		if !w.is[child] || w.parent[child] != w.of[tid] {
			continue
		}
		if children++; w.ended(child) {
			w.is[child], w.parent[child] = false, 0
			return child, api.OK
		}
	}
	if children == 0 {
		return 0, api.ECHILD
	}
	return 0, api.EAGAIN
}

// call is a call that changes tasks, and how the tests go along with it.
type call struct {
	name string
	do   func(t api.Tasks, id int) (api.Tasks, int, api.Errno)
	told func(w *told, id int) (int, api.Errno)
}

// calls answers all of them.
func calls() []call {
	numberless := func(do func(t api.Tasks, id int) (api.Tasks, api.Errno)) func(t api.Tasks, id int) (api.Tasks, int, api.Errno) {
		return func(t api.Tasks, id int) (api.Tasks, int, api.Errno) {
			x, e := do(t, id)
			return x, 0, e
		}
	}
	return []call{
		{"Fork", task.Fork, (*told).fork},
		{"Clone", task.Clone, (*told).clone},
		{"Exec", numberless(task.Exec), (*told).exec},
		{"End", numberless(task.End), (*told).end},
		{"Kill", numberless(task.Kill), (*told).kill},
		{"Reap", task.Reap, (*told).reap},
	}
}

// holds holds each call, with each of these ids, of w's tasks, which may be, against w.
func holds(t *testing.T, w told, ids []int) {
	t.Helper()
	x := w.tasks()
	if e := task.Check(x); e != api.OK {
		t.Fatalf("Check of %v: %d", x, e)
	}
	for _, c := range calls() {
		for _, id := range ids {
			after := w
			wantNumber, wantError := c.told(&after, id)
			want := after.tasks()
			if wantError != api.OK {
				want = api.Tasks{}
			}
			got, number, e := c.do(x, id)
			if !alike(got, want) || number != wantNumber || e != wantError {
				t.Fatalf("%s(%d) of %v: %v, %d, %d, not %v, %d, %d", c.name, id, x, got, number, e, want, wantNumber, wantError)
			}
			if e == api.OK && (!mayBe(got) || task.Check(got) != api.OK) {
				t.Fatalf("%s(%d) of %v: %v", c.name, id, x, got)
			}
		}
	}
	if !alike(x, w.tasks()) {
		t.Fatalf("%v has become %v", w.tasks(), x)
	}
	tells(t, w, ids)
}

// tells holds what is told of w's tasks against w.
func tells(t *testing.T, w told, ids []int) {
	t.Helper()
	x := w.tasks()
	for _, id := range ids {
		inside := id >= 1 && id <= 20
		wantPid := 0
		var wantThreads, wantChildren, wantLive []int
		if inside {
			wantPid = w.of[id]
		}
		if inside && w.is[id] {
			wantThreads = w.threads(id)
		}
		for other := 1; other <= 20; other++ {
			if inside && w.is[other] && w.parent[other] == id {
				wantChildren = append(wantChildren, other)
			}
			if w.of[other] != 0 {
				wantLive = append(wantLive, other)
			}
		}
		if pid, ok := task.Of(x, id); pid != wantPid || ok != (wantPid != 0) {
			t.Fatalf("Of(%d) of %v: %d, %t", id, x, pid, ok)
		}
		if l := task.Threads(x, id); !slices.Equal(l, wantThreads) {
			t.Fatalf("Threads(%d) of %v: %v", id, x, l)
		}
		if l := task.Children(x, id); !slices.Equal(l, wantChildren) {
			t.Fatalf("Children(%d) of %v: %v", id, x, l)
		}
		if l := task.Live(x); !slices.Equal(l, wantLive) {
			t.Fatalf("Live of %v: %v", x, l)
		}
	}
}

// checked holds Check of x, and the errors of all calls, against the chapter's words, and answers whether x may be.
func checked(t *testing.T, x api.Tasks) bool {
	t.Helper()
	before := twin(x)
	want := mayBe(x)
	if e := task.Check(x); (e == api.OK) != want || e != api.OK && e != api.ErrTasks {
		t.Fatalf("Check of %v: %d", x, e)
	}
	for _, c := range calls() {
		// ErrTasks goes ahead of ESRCH, ECHILD and EAGAIN.
		for _, id := range []int{-1, 0, 1, 2, 5, 21} {
			got, number, e := c.do(x, id)
			if (e == api.ErrTasks) == want || e != api.OK && (!alike(got, api.Tasks{}) || number != 0) {
				t.Fatalf("%s(%d) of %v: %v, %d, %d", c.name, id, x, got, number, e)
			}
		}
	}
	if !alike(x, before) {
		t.Fatalf("%v has become %v", before, x)
	}
	return want
}

// mayBe says whether t may be, clause by clause as the chapter's words tell it.
func mayBe(t api.Tasks) bool {
	if len(t.Procs) > 6 || t.Pids.Last < 0 || t.Pids.Last > 20 {
		return false
	}
	threads := 0
	process, thread := map[int]int{}, map[int]int{}
	for at, p := range t.Procs {
		if at > 0 && t.Procs[at-1].Pid >= p.Pid {
			return false
		}
		process[p.Pid] = at
		threads += len(p.Threads)
	}
	if threads > 8 {
		return false
	}
	ids := map[int]bool{}
	for at, p := range t.Procs {
		ids[p.Pid] = true
		for i, tid := range p.Threads {
			if _, twice := thread[tid]; twice || i > 0 && p.Threads[i-1] >= tid {
				return false
			}
			if other, there := process[tid]; there && other != at {
				return false
			}
			thread[tid], ids[tid] = at, true
		}
	}
	if len(ids) != len(t.Pids.Used) {
		return false
	}
	for at, id := range t.Pids.Used {
		if id < 1 || id > 20 || !ids[id] || at > 0 && t.Pids.Used[at-1] >= id {
			return false
		}
	}
	return parentsMayBe(t, process)
}

// parentsMayBe says so of the Parents. At the Pids stand the processes' places.
func parentsMayBe(t api.Tasks, process map[int]int) bool {
	for _, p := range t.Procs {
		if len(p.Threads) == 0 && p.Parent == 0 {
			return false
		}
		met := map[int]bool{p.Pid: true}
		for up := p.Parent; up != 0; up = t.Procs[process[up]].Parent {
			at, there := process[up]
			if !there || met[up] || len(t.Procs[at].Threads) == 0 {
				return false
			}
			met[up] = true
		}
	}
	return true
}

// alike says whether both are the same.
func alike(a, b api.Tasks) bool {
	if a.Pids.Last != b.Pids.Last || len(a.Pids.Used) != len(b.Pids.Used) || len(a.Procs) != len(b.Procs) {
		return false
	}
	for at, id := range a.Pids.Used {
		if b.Pids.Used[at] != id {
			return false
		}
	}
	for at, p := range a.Procs {
		q := b.Procs[at]
		if p.Pid != q.Pid || p.Parent != q.Parent || len(p.Threads) != len(q.Threads) {
			return false
		}
		for i, tid := range p.Threads {
			if q.Threads[i] != tid {
				return false
			}
		}
	}
	return true
}

// twin answers the tasks in new memory.
func twin(t api.Tasks) api.Tasks {
	x := api.Tasks{Pids: api.Pids{Last: t.Pids.Last, Used: append([]int(nil), t.Pids.Used...)}}
	for _, p := range t.Procs {
		p.Threads = append([]int(nil), p.Threads...)
		x.Procs = append(x.Procs, p)
	}
	return x
}

// strange are numbers that are no ids.
var strange = []int{math.MinInt, -1 << 32, -1<<32 + 1, -21, -20, -2, -1, 0, 21, 22, 40, 41, 1 << 32, 1<<32 + 1, math.MaxInt}

// every answers the ids from -1 to 22.
func every() []int {
	var l []int
	for id := -1; id <= 22; id++ {
		l = append(l, id)
	}
	return l
}

// chance answers a function that answers numbers below n, mixed by the seed.
func chance(seed uint64) func(n int) int {
	return func(n int) int {
		seed = seed*6364136223846793005 + 1442695040888963407
		return int(seed >> 33 % uint64(n))
	}
}

// some answers tasks that may be, of up to most processes, by chance.
func some(next func(n int) int, most int) told {
	w := told{last: next(21)}
	free := []int{}
	for id := 1; id <= 20; id++ {
		free = slices.Insert(free, next(len(free)+1), id)
	}
	pick := func() int {
		id := free[0]
		free = free[1:]
		return id
	}
	if at, to := slices.Index(free, 1), next(most); next(3) > 0 {
		// 1 is a process often, and each time at another depth.
		free[at], free[to] = free[to], free[at]
	}
	threads := 0
	var runs []int
	for range next(most + 1) {
		pid := pick()
		w.is[pid] = true
		if len(runs) > 0 && next(4) > 0 {
			w.parent[pid] = runs[next(len(runs))]
		}
		if w.parent[pid] != 0 && next(3) == 0 {
			continue
		}
		if runs = append(runs, pid); next(4) > 0 {
			w.of[pid] = pid
		} else {
			w.of[pick()] = pid
		}
		threads++
	}
	for len(runs) > 0 && threads < 8 && next(5) > 0 {
		pid := runs[next(len(runs))]
		if w.of[pid] == 0 && next(2) == 0 {
			w.of[pid] = pid
		} else {
			w.of[pick()] = pid
		}
		threads++
	}
	return w
}

// roomy answers the tasks in lists with room behind their ends, and all of that room.
func roomy(t api.Tasks) (x api.Tasks, ids [][]int, procs []api.Proc) {
	room := func(l []int) []int {
		wide := slices.Concat(l, []int{-7, -8, -9})
		ids = append(ids, wide)
		return wide[:len(l)]
	}
	x = api.Tasks{Pids: api.Pids{Last: t.Pids.Last, Used: room(t.Pids.Used)}}
	for _, p := range t.Procs {
		p.Threads = room(p.Threads)
		procs = append(procs, p)
	}
	procs = append(procs, api.Proc{Pid: -4, Threads: room([]int{-5})}, api.Proc{Pid: -6})
	x.Procs = procs[:len(t.Procs)]
	return x, ids, procs
}
