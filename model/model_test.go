package model_test

import (
	"math"
	"slices"
	"testing"

	"wicketgate/api"
	"wicketgate/model"
	"wicketgate/task"
)

// play is a call of a thread, and what it has to answer.
type play struct {
	tid    int
	call   api.Call
	answer api.Answer
}

// plays holds calls, one behind the other, from m on, and answers what they leave.
func plays(t *testing.T, m api.Model, l ...play) api.Model {
	t.Helper()
	for i, p := range l {
		then, a, e := model.Do(m, p.tid, p.call)
		if a != p.answer || e != api.OK {
			t.Fatalf("call %d, %d: %v of %v: %v, %d, not %v", i, p.tid, p.call, m, a, e, p.answer)
		}
		if p.answer.Err != api.OK && !alike(then, m) {
			t.Fatalf("call %d, %d: %v of %v: %v", i, p.tid, p.call, m, then)
		}
		m = then
	}
	return m
}

// value, failed, said and ended answer answers.
func value(n int) api.Answer {
	return api.Answer{Value: n}
}

func failed(e api.Errno) api.Answer {
	return api.Answer{Err: e}
}

func said(action int, data uint16) api.Answer {
	return api.Answer{Verdict: api.Verdict{Action: action, Data: data}, Ended: action <= api.KillThread}
}

var (
	fine  = api.Answer{}
	ended = api.Answer{Ended: true}
)

// kind answers a call of which no field counts.
func kind(n int) api.Call {
	return api.Call{Kind: n}
}

// drop and exec answer calls.
func drop(uid int) api.Call {
	return api.Call{Kind: api.CallDrop, Uid: uid}
}

func exec(owner int, setUid bool) api.Call {
	return api.Call{Kind: api.CallExec, File: api.File{Owner: owner, SetUid: setUid}}
}

// thread answers a thread's row.
func thread(tid int, c api.Cred, l ...api.Filter) api.Confined {
	return api.Confined{Tid: tid, Cred: c, Filters: l}
}

// filter answers a filter that returns a word alone.
func filter(num int, word uint32) api.Filter {
	return api.Filter{Num: num, Program: says(word)}
}

// proc answers a process.
func proc(pid, parent int, threads ...int) api.Proc {
	return api.Proc{Pid: pid, Parent: parent, Threads: threads}
}

// tasks answers tasks of these processes.
func tasks(last int, procs ...api.Proc) api.Tasks {
	x := api.Tasks{Pids: api.Pids{Last: last}, Procs: procs}
	for id := 1; id <= 20; id++ {
		if slices.ContainsFunc(procs, func(p api.Proc) bool { return p.Pid == id || slices.Contains(p.Threads, id) }) {
			x.Pids.Used = append(x.Pids.Used, id)
		}
	}
	return x
}

// of answers a model.
func of(next int, x api.Tasks, threads ...api.Confined) api.Model {
	return api.Model{Tasks: x, Threads: threads, Next: next}
}

// Some credentials.
var (
	admin    = api.Cred{Admin: true}
	user     = api.Cred{Uid: 5}
	held     = api.Cred{Uid: 5, NoNew: true}
	filtered = api.Cred{Uid: 5, NoNew: true, Mode: api.ModeFilter}
	strict   = api.Cred{Uid: 5, Mode: api.ModeStrict}
)

// with answers c with a mode.
func with(c api.Cred, mode int) api.Cred {
	c.Mode = mode
	return c
}

const a = errno | 1

func TestExamples(t *testing.T) { // P14.1 to P14.4
	m := plays(t, model.Begin(),
		play{1, attach(0, says(a)), fine}, play{1, sys(0), said(api.Refuse, 1)},
		play{1, kind(api.CallFork), value(2)}, play{2, sys(0), said(api.Refuse, 1)},
		play{2, drop(5), fine}, play{2, attach(0, says(a)), failed(api.EACCES)},
		play{1, kind(api.CallClone), value(3)}, play{1, attach(0, says(a)), fine},
		play{3, attach(api.FlagSync, says(a)), value(1)},
		play{1, kind(api.CallAttach), failed(api.EINVAL)}, play{1, attach(4, says(a)), failed(api.EINVAL)}, play{1, kind(api.CallStrict), failed(api.EINVAL)},
		play{2, kind(api.CallNoNew), fine}, play{2, attach(0, says(0)), fine}, play{2, sys(0), said(api.KillThread, 0)}, play{1, kind(api.CallWait), value(2)})
	want := of(4, api.Tasks{Pids: api.Pids{Last: 3, Used: []int{1, 3}}, Procs: []api.Proc{proc(1, 0, 1, 3)}},
		thread(1, with(admin, 2), filter(2, a), filter(1, a)), thread(3, with(admin, 2), filter(1, a)))
	if !alike(m, want) {
		t.Error(m)
	}
}

func TestExamplesOfTheWhole(t *testing.T) { // P14.2, P14.5
	// 1, 2.
	plays(t, model.Begin(), play{1, attach(0, says(a)), fine}, play{1, sys(3), said(api.Refuse, 1)}, play{1, kind(api.CallClone), value(2)}, play{2, sys(3), said(api.Refuse, 1)})
	plays(t, model.Begin(), play{1, drop(5), fine}, play{1, attach(0, says(a)), failed(api.EACCES)}, play{1, kind(api.CallNoNew), fine}, play{1, attach(0, says(a)), fine})
	// 3, 4.
	m := plays(t, model.Begin(), play{1, kind(api.CallClone), value(2)})
	plays(t, m, play{2, attach(0, says(a)), fine}, play{1, attach(api.FlagSync, says(a)), value(2)}, play{1, sys(3), said(api.Allow, 0)}, play{2, sys(3), said(api.Refuse, 1)})
	plays(t, m, play{1, attach(api.FlagSync, says(a)), fine}, play{1, sys(3), said(api.Refuse, 1)}, play{2, sys(3), said(api.Refuse, 1)})
	// 5, 6.
	plays(t, model.Begin(), play{1, attach(0, only(6, a)), fine}, play{1, sys(5), said(api.Allow, 0)}, play{1, sys(6), said(api.Refuse, 1)})
	plays(t, model.Begin(), play{1, attach(0, says(errno|2)), fine}, play{1, attach(0, says(errno|1)), fine}, play{1, sys(3), said(api.Refuse, 1)})
	// 7.
	last := plays(t, m, play{1, kind(api.CallFork), value(3)}, play{2, attach(0, says(killProcess)), fine}, play{2, sys(3), said(api.KillProcess, 0)})
	if _, _, e := model.Do(last, 1, sys(3)); e != api.ESRCH || len(last.Threads) != 1 || last.Threads[0].Tid != 3 {
		t.Error(last, e)
	}
	// 8.
	m = plays(t, m, play{1, kind(api.CallFork), value(3)}, play{3, kind(api.CallClone), value(4)}, play{4, drop(5), fine}, play{4, kind(api.CallNoNew), fine}, play{4, exec(0, true), value(3)})
	if x, ok := model.Of(m, 3); !ok || x.Cred != held || len(m.Threads) != 3 {
		t.Error(m)
	}
	// 9.
	for nr := range uint32(100) {
		want := said(api.KillThread, 0)
		if nr == 0 || nr == 1 || nr == 15 || nr == 60 {
			want = said(api.Allow, 0)
		}
		plays(t, model.Begin(), play{1, kind(api.CallStrict), fine}, play{1, attach(0, says(a)), failed(api.EINVAL)}, play{1, sys(nr), want})
	}
	// 10.
	m = plays(t, model.Begin(), play{1, kind(api.CallFork), value(2)}, play{2, attach(0, says(a)), fine}, play{2, attach(0, says(a)), fine}, play{1, attach(0, says(a)), fine})
	if model.Nodes(m) != 3 || model.Nodes(plays(t, m, play{2, kind(api.CallExit), ended})) != 1 {
		t.Error(m)
	}
}

func TestBegin(t *testing.T) { // P14.1
	want := of(1, tasks(1, proc(1, 0, 1)), thread(1, admin))
	one, two := model.Begin(), model.Begin()
	if !alike(one, want) || !checked(t, one) || !alike(first().model(), want) {
		t.Error(one)
	}
	one.Threads[0].Tid, one.Tasks.Procs[0].Pid, one.Tasks.Procs[0].Threads[0], one.Tasks.Pids.Used[0] = 9, 9, 9, 9
	if !alike(two, want) || !alike(model.Begin(), want) {
		t.Error("two answers share memory")
	}
}

func TestWhoIsNotThere(t *testing.T) { // P14.2
	m := plays(t, model.Begin(), play{1, kind(api.CallFork), value(2)}, play{2, kind(api.CallClone), value(3)}, play{2, kind(api.CallExit), ended})
	// 2 is a process still, but no thread.
	for _, tid := range slices.Concat([]int{2, 4, 20}, strange) {
		for n := 1; n <= 11; n++ {
			if got, a, e := model.Do(m, tid, kind(n)); !alike(got, api.Model{}) || a != (api.Answer{}) || e != api.ESRCH {
				t.Errorf("%d: %d: %v, %v, %d", tid, n, got, a, e)
			}
		}
		// ErrCall goes ahead.
		if got, a, e := model.Do(m, tid, kind(12)); !alike(got, api.Model{}) || a != (api.Answer{}) || e != api.ErrCall {
			t.Errorf("%d: %v, %v, %d", tid, got, a, e)
		}
	}
	if got, a, e := model.Do(m, 1, api.Call{Kind: 3, Flags: 1}); !alike(got, api.Model{}) || a != (api.Answer{}) || e != api.ErrCall {
		t.Error(got, a, e)
	}
	// Nobody is there any more.
	m = plays(t, m, play{1, kind(api.CallExit), ended}, play{3, kind(api.CallExit), ended})
	if !alike(m, of(1, api.Tasks{Pids: api.Pids{Last: 3}})) || !checked(t, m) {
		t.Error(m)
	}
	if _, _, e := model.Do(m, 1, kind(3)); e != api.ESRCH {
		t.Error(e)
	}
}

func TestAttachInOrder(t *testing.T) { // P14.2
	bad := [][]api.Insn{{{Code: 0x94}}, {{Code: 0x06}, {}}, {{Code: 0x20, K: 2}, {Code: 0x06}}, {{Code: 0x05, K: 1}, {Code: 0x06}}}
	rows := [][]byte{nil, {}, {6}, bytes(says(a))[:7], append(bytes(says(a)), 0), bytes(long(65, a)), bytes(long(255, a)), bytes(long(256, a)), make([]byte, 2041), make([]byte, 1<<16)}
	for n := range 1 << 6 {
		// Each bit breaks one thing: whatever else is broken, too, the first one's error is answered.
		is := func(bit int) bool { return n>>bit&1 == 1 }
		x := thread(1, api.Cred{Uid: 5, NoNew: true})
		flags, next, rowsOf := []int{0, 1, 2, 3}, 7, [][]byte{bytes(says(a)), bytes(long(64, a))}
		if is(0) {
			flags = []int{4, -1, 7, 8, 256, -2, -3, -4, math.MinInt, math.MaxInt, 1 << 32, 1<<32 + 1}
		}
		if is(3) {
			rowsOf = nil
			for _, p := range bad {
				rowsOf = append(rowsOf, bytes(p))
			}
		}
		if is(1) {
			rowsOf = rows
		}
		x.Cred.NoNew = !is(2)
		if is(4) {
			x.Cred.Mode = 1
		}
		if is(5) {
			next = 1 << 30
		}
		want := fine
		for bit, e := range []api.Errno{api.EINVAL, api.EINVAL, api.EACCES, api.EINVAL, api.EINVAL, api.ENOMEM} {
			if is(bit) {
				want = failed(e)
				break
			}
		}
		m := of(next, tasks(1, proc(1, 0, 1)), x)
		for _, f := range flags {
			for _, row := range rowsOf {
				plays(t, m, play{1, api.Call{Kind: 1, Flags: f, Bytes: row}, want})
			}
		}
	}
}

func TestWhoMayAttach(t *testing.T) { // P14.2
	for _, c := range []api.Cred{{Uid: 5}, {}, {Uid: 5, Admin: true}, admin, held, {Admin: true, NoNew: true}} {
		may := c.Admin || c.NoNew
		m := of(1, tasks(1, proc(1, 0, 1)), thread(1, c))
		then, x, e := model.Do(m, 1, attach(0, says(a)))
		want := of(2, tasks(1, proc(1, 0, 1)), thread(1, with(c, 2), filter(1, a)))
		if may && (!alike(then, want) || x != fine) || !may && (!alike(then, m) || x != failed(api.EACCES)) || e != api.OK {
			t.Errorf("%v: %v, %v, %d", c, then, x, e)
		}
	}
}

func TestAttachLimits(t *testing.T) { // P14.1, P14.2
	// A size of 256 is none too much: 68, 68, 68 and 52.
	sixty := play{1, attach(0, long(64, allow)), fine}
	m := plays(t, model.Begin(), sixty, sixty, sixty)
	full := plays(t, m, play{1, attach(0, long(49, allow)), failed(api.ENOMEM)}, play{1, attach(api.FlagSync, long(49, allow)), failed(api.ENOMEM)}, play{1, attach(0, long(48, allow)), fine})
	if x, _ := model.Of(full, 1); model.Size(x.Filters) != 256 || !checked(t, full) {
		t.Error(full)
	}
	plays(t, full, play{1, attach(0, says(a)), failed(api.ENOMEM)}, play{1, attach(api.FlagSync|api.FlagEsrch, says(a)), failed(api.ENOMEM)})
	// With five left one instruction fits, with four none.
	plays(t, m, play{1, attach(0, long(43, allow)), fine}, play{1, attach(0, long(2, allow)), failed(api.ENOMEM)}, play{1, attach(0, says(a)), fine}, play{1, attach(0, says(a)), failed(api.ENOMEM)})
	plays(t, m, play{1, attach(0, long(44, allow)), fine}, play{1, attach(0, says(a)), failed(api.ENOMEM)})
	// 24 filters, in one list, and in several ones of which one ends.
	m = model.Begin()
	for range 24 {
		m = plays(t, m, play{1, attach(0, says(a)), fine})
	}
	if model.Nodes(m) != 24 || !checked(t, m) {
		t.Error(m)
	}
	plays(t, m, play{1, attach(0, says(a)), failed(api.ENOMEM)}, play{1, kind(api.CallFork), value(2)}, play{2, attach(0, says(a)), failed(api.ENOMEM)}, play{1, kind(api.CallExit), ended}, play{2, attach(0, says(a)), failed(api.ENOMEM)})
	m = plays(t, model.Begin(), play{1, kind(api.CallFork), value(2)}, play{1, kind(api.CallFork), value(3)})
	for i := range 24 {
		m = plays(t, m, play{i%2 + 1, attach(0, says(a)), fine})
	}
	plays(t, m, play{3, attach(0, says(a)), failed(api.ENOMEM)}, play{2, kind(api.CallExit), ended}, play{3, attach(0, says(a)), fine})
	// Who is blocked is told behind the limits.
	plays(t, m, play{3, kind(api.CallClone), value(4)}, play{4, kind(api.CallStrict), fine}, play{3, attach(api.FlagSync, says(a)), failed(api.ENOMEM)})
	// The last Num.
	x := tasks(1, proc(1, 0, 1))
	m = plays(t, of(1<<30-1, x, thread(1, admin)), play{1, attach(0, says(a)), fine})
	if !alike(m, of(1<<30, x, thread(1, with(admin, 2), filter(1<<30-1, a)))) {
		t.Error(m)
	}
	plays(t, m, play{1, attach(0, says(a)), failed(api.ENOMEM)})
	plays(t, of(1<<30, x, thread(1, admin)), play{1, attach(0, says(a)), failed(api.ENOMEM)})
}

func TestSync(t *testing.T) { // P14.2, P14.5
	// 3 attaches in the process 2, of which 2, 3, 5 and 9 are; 1, 4 and 7 are of other ones.
	x := tasks(9, proc(1, 0, 1), proc(2, 1, 2, 3, 5, 9), proc(4, 2, 4, 7))
	two, one := filter(2, errno|2), filter(1, errno|1)
	rest := func(m api.Model) api.Model {
		l := []api.Confined{thread(1, with(admin, 1)), thread(4, with(admin, 2), filter(3, errno)), thread(7, with(user, 1))}
		m.Threads = append(m.Threads, l...)
		slices.SortFunc(m.Threads, func(x, y api.Confined) int { return x.Tid - y.Tid })
		return m
	}
	mates := []struct {
		x    api.Confined
		goes bool
	}{
		{thread(0, user), true}, {thread(0, admin), true}, {thread(0, held), true},
		{thread(0, with(user, 2), one), true}, {thread(0, with(held, 2), one), true}, {thread(0, with(admin, 2), two, one), true}, {thread(0, with(user, 2), two, one), true},
		{thread(0, strict), false}, {thread(0, with(held, 1)), false}, {thread(0, with(admin, 1)), false},
		{thread(0, with(user, 2), filter(4, errno), two, one), false}, {thread(0, with(user, 2), filter(6, errno), one), false}, {thread(0, with(user, 2), filter(3, errno)), false}, {thread(0, with(user, 2), filter(5, errno), filter(3, errno)), false},
	}
	for _, self := range []api.Cred{with(admin, 2), with(held, 2), {Uid: 3, Admin: true, NoNew: true, Mode: 2}} {
		for _, p := range mates {
			for _, q := range mates {
				for _, r := range mates {
					p.x.Tid, q.x.Tid, r.x.Tid = 2, 5, 9
					m := rest(of(8, x, p.x, thread(3, self, two, one), q.x, r.x))
					held := m
					all := []api.Filter{filter(8, a), two, one}
					into := func(y api.Confined) api.Confined {
						return thread(y.Tid, api.Cred{Uid: y.Cred.Uid, Admin: y.Cred.Admin, NoNew: y.Cred.NoNew || self.NoNew, Mode: 2}, all...)
					}
					want, least := rest(of(9, x, into(p.x), into(thread(3, self)), into(q.x), into(r.x))), 0
					switch {
					case !p.goes:
						least = 2
					case !q.goes:
						least = 5
					case !r.goes:
						least = 9
					}
					if least != 0 {
						want = held
						plays(t, m, play{3, attach(3, says(a)), failed(api.ESRCH)})
					}
					for _, flags := range []int{1, 3} {
						if then, got, e := model.Do(m, 3, attach(flags, says(a))); (least == 0 || flags == 1) && (!alike(then, want) || got != value(least) || e != api.OK) {
							t.Fatalf("%v: %v, %v, %d, not %v", m, then, got, e, want)
						}
					}
					// Without FlagSync nobody is in the way, and nobody is touched.
					lone := rest(of(9, x, p.x, thread(3, self, all...), q.x, r.x))
					for _, flags := range []int{0, 2} {
						if then, got, e := model.Do(m, 3, attach(flags, says(a))); !alike(then, lone) || got != fine || e != api.OK {
							t.Fatalf("%v: %v, %v, %d", m, then, got, e)
						}
					}
				}
			}
		}
	}
}

func TestSyncOfEmptyLists(t *testing.T) { // P14.2
	// Whose own list is empty goes behind nobody's but empty ones.
	x := tasks(2, proc(1, 0, 1, 2))
	m := of(5, x, thread(1, admin), thread(2, user))
	if then := plays(t, m, play{1, attach(1, says(a)), fine}); !alike(then, of(6, x, thread(1, with(admin, 2), filter(5, a)), thread(2, with(user, 2), filter(5, a)))) {
		t.Error(then)
	}
	plays(t, of(5, x, thread(1, admin), thread(2, with(user, 2), filter(1, a))), play{1, attach(1, says(a)), value(2)}, play{1, attach(3, says(a)), failed(api.ESRCH)})
	// Who is alone has nobody in the way.
	plays(t, model.Begin(), play{1, attach(3, says(a)), fine}, play{1, attach(1, says(a)), fine})
	// Nor is who has ended.
	m = plays(t, model.Begin(), play{1, kind(api.CallClone), value(2)}, play{2, kind(api.CallStrict), fine}, play{1, attach(1, says(a)), value(2)}, play{2, kind(api.CallExit), ended})
	plays(t, m, play{1, attach(1, says(a)), fine})
}

func TestCredentials(t *testing.T) { // P14.2
	x := tasks(2, proc(1, 0, 1, 2))
	// 2 stays as it is, whatever 1 does.
	same := thread(2, with(held, 2), filter(1, a))
	for i, p := range []struct {
		c      api.Cred
		call   api.Call
		answer api.Answer
		then   api.Cred
	}{
		{admin, kind(api.CallStrict), fine, with(admin, 1)}, {user, kind(api.CallStrict), fine, strict}, {strict, kind(api.CallStrict), fine, strict}, {with(held, 2), kind(api.CallStrict), failed(api.EINVAL), with(held, 2)},
		{admin, kind(api.CallNoNew), fine, api.Cred{Admin: true, NoNew: true}}, {user, kind(api.CallNoNew), fine, held}, {held, kind(api.CallNoNew), fine, held}, {with(user, 1), kind(api.CallNoNew), fine, with(held, 1)}, {with(user, 2), kind(api.CallNoNew), fine, with(held, 2)},
		{admin, drop(0), fine, admin}, {admin, drop(5), fine, user}, {admin, drop(9), fine, api.Cred{Uid: 9}}, {api.Cred{Uid: 5, Admin: true}, drop(0), fine, admin}, {api.Cred{Uid: 5, Admin: true}, drop(5), fine, user},
		{user, drop(5), fine, user}, {user, drop(6), failed(api.EPERM), user}, {user, drop(0), failed(api.EPERM), user}, {api.Cred{}, drop(0), fine, api.Cred{}}, {held, drop(5), fine, held}, {with(held, 2), drop(5), fine, with(held, 2)},
		{admin, drop(-1), failed(api.EINVAL), admin}, {admin, drop(10), failed(api.EINVAL), admin}, {user, drop(10), failed(api.EINVAL), user}, {user, drop(-1), failed(api.EINVAL), user}, {user, drop(math.MaxInt), failed(api.EINVAL), user}, {user, drop(math.MinInt), failed(api.EINVAL), user}, {admin, drop(1 << 32), failed(api.EINVAL), admin},
		{with(admin, 2), drop(3), fine, api.Cred{Uid: 3, Mode: 2}}, {with(admin, 1), drop(3), fine, api.Cred{Uid: 3, Mode: 1}},
	} {
		var l []api.Filter
		if p.c.Mode == 2 {
			l = []api.Filter{filter(3, allow), filter(1, a)}
		}
		m := of(4, x, thread(1, p.c, l...), same)
		if then, got, e := model.Do(m, 1, p.call); !alike(then, of(4, x, thread(1, p.then, l...), same)) || got != p.answer || e != api.OK {
			t.Errorf("case %d: %v, %v, %d", i, then, got, e)
		}
	}
}

func TestSys(t *testing.T) { // P14.2
	// 3 calls in the process 2, of which 2 and 3 are.
	x := tasks(4, proc(1, 0, 1), proc(2, 1, 2, 3), proc(4, 2, 4))
	for i, p := range []struct {
		word   uint32
		answer api.Answer
	}{
		{killProcess | 7, said(api.KillProcess, 7)}, {killThread | 7, said(api.KillThread, 7)}, {0x00030007, said(api.Trap, 7)}, {errno | 7, said(api.Refuse, 7)}, {0x7fc00007, said(api.Notify, 7)}, {0x7ff00007, said(api.Trace, 7)}, {0x7ffc0007, said(api.Log, 7)}, {allow | 7, said(api.Allow, 7)},
		{0x00010009, said(api.KillProcess, 9)}, {0x7fff8000, said(api.Allow, 0x8000)}, {0xffffffff, said(api.KillProcess, 0xffff)},
	} {
		rows := []api.Confined{thread(1, admin), thread(2, user), thread(3, with(held, 2), filter(1, p.word)), thread(4, user)}
		m := of(2, x, rows...)
		want := m
		switch p.answer.Verdict.Action {
		case api.KillThread:
			want = of(2, tasks(4, proc(1, 0, 1), proc(2, 1, 2), proc(4, 2, 4)), rows[0], rows[1], rows[3])
		case api.KillProcess:
			want = of(2, tasks(4, proc(1, 0, 1), proc(2, 1), proc(4, 1, 4)), rows[0], rows[3])
		}
		if then, got, e := model.Do(m, 3, sys(5)); !alike(then, want) || got != p.answer || e != api.OK {
			t.Errorf("case %d: %v, %v, %d, not %v", i, then, got, e, want)
		}
	}
}

func TestSysSeesTheData(t *testing.T) { // P14.2, P14.3
	d := api.Data{Nr: 5, Arch: api.ArchTwo, Ip: 1<<32 + 7, Args: [6]uint64{1, 2, 3, 4, 5, 6<<32 + 8}}
	for offset := uint32(0); offset < 64; offset += 4 {
		// What is seen there is the word's data.
		p := []api.Insn{{Code: 0x20, K: offset}, {Code: 0x44, K: errno}, {Code: 0x16}}
		word := [16]uint16{5, 3, 7, 1, 1, 0, 2, 0, 3, 0, 4, 0, 5, 0, 8, 6}[offset/4]
		want := said(api.Refuse, word)
		if offset == 4 {
			want = said(api.KillProcess, word) // the architecture lies in the action, too
		}
		m := plays(t, model.Begin(), play{1, attach(0, p), fine})
		plays(t, m, play{1, api.Call{Kind: api.CallSys, Data: d}, want})
	}
}

func TestForkAndClone(t *testing.T) { // P14.2
	x := tasks(7, proc(1, 0, 1), proc(5, 1, 5, 7))
	l := []api.Filter{filter(4, allow), filter(2, a)}
	one, five, seven := thread(1, admin), thread(5, with(user, 2), filter(3, a)), thread(7, with(held, 2), l...)
	m := of(9, x, one, five, seven)
	if then := plays(t, m, play{7, kind(api.CallFork), value(8)}); !alike(then, of(9, tasks(8, proc(1, 0, 1), proc(5, 1, 5, 7), proc(8, 5, 8)), one, five, seven, thread(8, with(held, 2), l...))) {
		t.Error(then)
	}
	if then := plays(t, m, play{7, kind(api.CallClone), value(8)}); !alike(then, of(9, tasks(8, proc(1, 0, 1), proc(5, 1, 5, 7, 8)), one, five, seven, thread(8, with(held, 2), l...))) {
		t.Error(then)
	}
	// The ids go round: who is new stands among the others.
	m.Tasks.Pids.Last = 1
	if then := plays(t, m, play{5, kind(api.CallClone), value(2)}); !alike(then, of(9, tasks(2, proc(1, 0, 1), proc(5, 1, 2, 5, 7)), one, thread(2, with(user, 2), filter(3, a)), five, seven)) {
		t.Error(then)
	}
	if then := plays(t, m, play{1, kind(api.CallFork), value(2)}); !alike(then, of(9, tasks(2, proc(1, 0, 1), proc(2, 1, 2), proc(5, 1, 5, 7)), one, thread(2, admin), five, seven)) {
		t.Error(then)
	}
	// Eight threads, six processes.
	m = model.Begin()
	for id := 2; id <= 8; id++ {
		m = plays(t, m, play{id - 1, kind(api.CallClone), value(id)})
	}
	plays(t, m, play{3, kind(api.CallClone), failed(api.EAGAIN)}, play{8, kind(api.CallFork), failed(api.EAGAIN)}, play{2, kind(api.CallExit), ended}, play{3, kind(api.CallFork), value(9)}, play{9, kind(api.CallClone), failed(api.EAGAIN)})
	m = model.Begin()
	for id := 2; id <= 6; id++ {
		m = plays(t, m, play{id - 1, kind(api.CallFork), value(id)})
	}
	plays(t, m, play{3, kind(api.CallFork), failed(api.EAGAIN)}, play{3, kind(api.CallClone), value(7)}, play{6, kind(api.CallGroup), ended}, play{3, kind(api.CallFork), failed(api.EAGAIN)}, play{5, kind(api.CallWait), value(6)}, play{3, kind(api.CallFork), value(8)})
}

func TestExec(t *testing.T) { // P14.2
	// 7 runs a file in the process 3, whose id is 3's; 4 and 9 are of another one.
	x := tasks(9, proc(1, 0, 1), proc(3, 1, 3, 5, 7), proc(4, 3, 4, 9))
	one, four, nine := thread(1, with(user, 2), filter(1, a)), thread(4, strict), thread(9, admin)
	three, five := thread(3, with(admin, 2), filter(2, a), filter(1, a)), thread(5, with(user, 1))
	l := []api.Filter{filter(6, allow), filter(1, a)}
	alone := tasks(9, proc(1, 0, 1), proc(3, 1, 3), proc(4, 3, 4, 9))
	for i, p := range []struct {
		c      api.Cred
		call   api.Call
		answer api.Answer
		then   api.Cred
	}{
		{with(user, 2), exec(0, true), value(3), with(admin, 2)}, {with(user, 2), exec(9, true), value(3), api.Cred{Uid: 9, Mode: 2}}, {with(user, 2), exec(9, false), value(3), with(user, 2)}, {with(user, 2), exec(0, false), value(3), with(user, 2)},
		{with(held, 2), exec(0, true), value(3), with(held, 2)}, {with(held, 2), exec(9, true), value(3), with(held, 2)}, {with(admin, 2), exec(4, true), value(3), api.Cred{Uid: 4, Mode: 2}},
		{with(user, 2), exec(10, true), failed(api.EINVAL), user}, {with(user, 2), exec(-1, true), failed(api.EINVAL), user}, {with(user, 2), exec(10, false), failed(api.EINVAL), user}, {with(held, 2), exec(-1, false), failed(api.EINVAL), user}, {with(user, 2), exec(math.MaxInt, false), failed(api.EINVAL), user}, {with(user, 2), exec(math.MinInt, false), failed(api.EINVAL), user}, {with(user, 2), exec(1<<32, true), failed(api.EINVAL), user},
	} {
		m := of(7, x, one, three, four, five, thread(7, p.c, l...), nine)
		want := of(7, alone, one, thread(3, p.then, l...), four, nine)
		if p.answer.Err != api.OK {
			want = m
		}
		if then, got, e := model.Do(m, 7, p.call); !alike(then, want) || got != p.answer || e != api.OK {
			t.Errorf("case %d: %v, %v, %d, not %v", i, then, got, e, want)
		}
	}
	// Of the first one, and of one whose first one has ended.
	m := of(7, x, one, three, four, five, thread(7, with(held, 2), l...), nine)
	if then := plays(t, m, play{3, exec(3, true), value(3)}); !alike(then, of(7, alone, one, thread(3, api.Cred{Uid: 3, Mode: 2}, three.Filters...), four, nine)) {
		t.Error(then)
	}
	if then := plays(t, m, play{3, kind(api.CallExit), ended}, play{5, exec(0, false), value(3)}); !alike(then, of(7, alone, one, thread(3, five.Cred), four, nine)) {
		t.Error(then)
	}
	if then := plays(t, m, play{9, exec(0, false), value(4)}); !alike(then, of(7, tasks(9, proc(1, 0, 1), proc(3, 1, 3, 5, 7), proc(4, 3, 4)), one, three, thread(4, admin), five, thread(7, with(held, 2), l...))) {
		t.Error(then)
	}
}

func TestExitGroupAndWait(t *testing.T) { // P14.2
	x := tasks(9, proc(1, 0, 1), proc(3, 1, 3, 5, 7), proc(4, 3, 4, 9))
	one, three, four, five, seven, nine := thread(1, user), thread(3, admin), thread(4, strict), thread(5, with(held, 2), filter(1, a)), thread(7, held), thread(9, user)
	m := of(7, x, one, three, four, five, seven, nine)
	for i, p := range []struct {
		plays []play
		then  api.Model
	}{
		{[]play{{5, kind(api.CallExit), ended}}, of(7, tasks(9, proc(1, 0, 1), proc(3, 1, 3, 7), proc(4, 3, 4, 9)), one, three, four, seven, nine)},
		{[]play{{3, kind(api.CallExit), ended}}, of(7, tasks(9, proc(1, 0, 1), proc(3, 1, 5, 7), proc(4, 3, 4, 9)), one, four, five, seven, nine)},
		{[]play{{7, kind(api.CallGroup), ended}}, of(7, tasks(9, proc(1, 0, 1), proc(3, 1), proc(4, 1, 4, 9)), one, four, nine)},
		{[]play{{1, kind(api.CallGroup), ended}}, of(7, tasks(9, proc(3, 0, 3, 5, 7), proc(4, 3, 4, 9)), three, four, five, seven, nine)},
		{[]play{{1, kind(api.CallWait), failed(api.EAGAIN)}, {4, kind(api.CallWait), failed(api.ECHILD)}, {7, kind(api.CallWait), failed(api.EAGAIN)}}, m},
		{[]play{{4, kind(api.CallGroup), ended}, {5, kind(api.CallWait), value(4)}, {5, kind(api.CallWait), failed(api.ECHILD)}}, of(7, tasks(9, proc(1, 0, 1), proc(3, 1, 3, 5, 7)), one, three, five, seven)},
		{[]play{{9, kind(api.CallExit), ended}, {5, kind(api.CallWait), failed(api.EAGAIN)}, {4, kind(api.CallExit), ended}, {7, kind(api.CallWait), value(4)}}, of(7, tasks(9, proc(1, 0, 1), proc(3, 1, 3, 5, 7)), one, three, five, seven)},
		{[]play{{7, kind(api.CallGroup), ended}, {1, kind(api.CallWait), value(3)}, {1, kind(api.CallWait), failed(api.EAGAIN)}, {9, kind(api.CallGroup), ended}, {1, kind(api.CallWait), value(4)}}, of(7, tasks(9, proc(1, 0, 1)), one)},
	} {
		if then := plays(t, m, p.plays...); !alike(then, p.then) {
			t.Errorf("case %d: %v, not %v", i, then, p.then)
		}
	}
	if task.Check(x) != api.OK || !checked(t, m) {
		t.Error(m)
	}
}
