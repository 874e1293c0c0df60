package attach_test

import (
	"slices"
	"testing"

	"wicketgate/api"
	"wicketgate/attach"
	"wicketgate/chain"
	"wicketgate/cred"
	"wicketgate/model"
	"wicketgate/task"
)

// follows holds what the document says of all that comes: was is the cage ahead of a call, is the one behind it.
func follows(t *testing.T, was, is api.Cage, x act) {
	t.Helper()
	if attach.Check(is) != api.OK {
		t.Fatalf("%s: %v of %v", x.name, is, was)
	}
	heads := map[int]bool{}
	for _, g := range is.Guards {
		old, there := attach.Of(was, g.Tid)
		if !there {
			continue
		}
		now, _ := chain.Chain(is.Pool, g.Head)
		ahead, _ := chain.Chain(was.Pool, old.Head)
		// It grows at its front alone.
		if from := len(now) - len(ahead); from < 0 || !slices.Equal(now[from:], ahead) {
			t.Fatalf("%s: the chain %v of %d was %v", x.name, now, g.Tid, ahead)
		}
		if len(now) > len(ahead) {
			heads[g.Head] = true
		}
	}
	// To whomever a filter has come, it is one.
	if len(heads) > 1 {
		t.Fatalf("%s: %v has become %v", x.name, was, is)
	}
}

// tighter holds it of all threads that what is said of their calls is no less restrictive than it was, and what the bits allow the chain allows.
func tighter(t *testing.T, was, is api.Cage) {
	t.Helper()
	for _, d := range datas() {
		for _, g := range is.Guards {
			v, byBits, _ := attach.Verdict(is, g.Tid, d)
			if run, _ := chain.Eval(is.Pool, g.Head, d); byBits && run != (api.Verdict{Action: api.Allow}) || g.Head != 0 && v != run {
				t.Fatalf("of %v, %v: %v, %t, but its chain %v", g, d, v, byBits, run)
			}
			if old, _, e := attach.Verdict(was, g.Tid, d); e == api.OK && v.Action > old.Action {
				t.Fatalf("of %v, %v: %v, and was %v", g, d, v, old)
			}
		}
	}
}

// both is a model, and the cage of its threads.
type both struct {
	api.Model
	cage api.Cage
}

// may answers the cage behind what is made of a thread's credentials, and the error of that.
func (b both) may(tid int, change func(c api.Cred) (api.Cred, api.Errno)) (api.Cage, api.Errno) {
	g, _ := attach.Of(b.cage, tid)
	c, e := change(g.Cred)
	switch e {
	case api.OK:
	case api.ErrArg:
		return b.cage, api.EINVAL
	default:
		return b.cage, e
	}
	return attach.Set(b.cage, tid, c)
}

// attach attaches as a kernel does: what Prepare lets through comes to the thread, or to all of its process.
func (b both) attach(tid int, c api.Call) (api.Cage, api.Answer) {
	g, _ := attach.Of(b.cage, tid)
	program, e := attach.Prepare(c.Flags, c.Bytes, g.Cred)
	if e != api.OK {
		return b.cage, api.Answer{Err: e}
	}
	pid, _ := task.Of(b.Tasks, tid)
	q, a, _ := attach.Attach(b.cage, tid, task.Threads(b.Tasks, pid), c.Flags, program)
	return q, a
}

// goes does a call of a thread in both ways, holds them against each other, and answers what comes of it.
func (b both) goes(t *testing.T, tid int, c api.Call) (both, api.Answer) {
	t.Helper()
	pid, _ := task.Of(b.Tasks, tid)
	q, want := b.cage, api.Answer{}
	then, a, e := model.Do(b.Model, tid, c)
	if e != api.OK {
		t.Fatal(e)
	}
	switch c.Kind {
	case api.CallAttach:
		q, want = b.attach(tid, c)
	case api.CallStrict:
		q, want.Err = b.may(tid, cred.Strict)
	case api.CallNoNew:
		q, want.Err = b.may(tid, cred.NoNew)
	case api.CallDrop:
		q, want.Err = b.may(tid, func(x api.Cred) (api.Cred, api.Errno) { return cred.Drop(x, c.Uid) })
	case api.CallSys:
		want.Verdict, _, _ = attach.Verdict(q, tid, c.Data)
		want.Ended = want.Verdict.Action <= api.KillThread
	case api.CallExec:
		want.Value = pid
		q, _ = b.may(tid, func(x api.Cred) (api.Cred, api.Errno) { return cred.Exec(x, c.File) })
		for _, other := range task.Threads(b.Tasks, pid) {
			if other != tid {
				q, _ = attach.Leave(q, other)
			}
		}
		q, _ = attach.Rename(q, tid, pid)
	default:
		// Who comes and who ends is the tasks' to say.
		want = a
	}
	if a != want {
		t.Fatalf("%d: %v of %v: %v, not %v", tid, c, b.cage, want, a)
	}
	for _, g := range q.Guards {
		if _, live := task.Of(then.Tasks, g.Tid); !live {
			q, _ = attach.Leave(q, g.Tid)
		}
	}
	if (c.Kind == api.CallFork || c.Kind == api.CallClone) && a.Err == api.OK {
		q, _ = attach.Inherit(q, tid, a.Value)
	}
	b = both{then, q}
	b.holds(t)
	return b, a
}

// holds holds both against each other.
func (b both) holds(t *testing.T) {
	t.Helper()
	if attach.Check(b.cage) != api.OK || len(b.cage.Guards) != len(b.Threads) || len(b.cage.Pool.Nodes) != model.Nodes(b.Model) {
		t.Fatalf("%v is not %v", b.cage, b.Model)
	}
	for at, x := range b.Threads {
		g := b.cage.Guards[at]
		l, _ := chain.Chain(b.cage.Pool, g.Head)
		if g.Tid != x.Tid || g.Cred != x.Cred || len(l) != len(x.Filters) {
			t.Fatalf("%v is not %v", g, x)
		}
		for at, id := range l {
			if n, _ := chain.Find(b.cage.Pool, id); !slices.Equal(n.Program, x.Filters[at].Program) {
				t.Fatalf("%v is not %v", n, x.Filters[at])
			}
		}
		for _, d := range datas() {
			want, _, _ := model.Verdict(x, d)
			if v, _, e := attach.Verdict(b.cage, x.Tid, d); v != want || e != api.OK {
				t.Fatalf("%v of %v says %v, %d, not %v", g, d, v, e, want)
			}
		}
	}
}

// someCall answers a call.
func someCall(next func(int) int) api.Call {
	all := [][]api.Insn{says(allowWord), says(errnoWord + 9), only(0, 5, errnoWord+1), only(0, 63, 0x80000002), only(16, 5, errnoWord+3), only(8, 9, 0), long(64, 0x7ffc0001), long(60, errnoWord+7), nil, long(65, 0), {in("ld.imm", 1)}}
	kinds := []int{1, 1, 1, 1, 1, 1, 1, 1, 1, 1, 2, 3, 3, 3, 4, 5, 5, 6, 7, 7, 7, 7, 8, 9, 11, 11}
	if next(30) == 0 {
		kinds = []int{api.CallGroup}
	}
	c := api.Call{Kind: kinds[next(len(kinds))]}
	switch c.Kind {
	case api.CallAttach:
		c.Flags, c.Bytes = []int{0, 0, 1, 1, 1, 3, 4}[next(7)], bytesOf(all[next(len(all))])
	case api.CallDrop:
		c.Uid = next(12) % 11 * next(2)
	case api.CallSys:
		c.Data = datas()[next(len(datas()))]
	case api.CallExec:
		c.File = api.File{Owner: next(3), SetUid: next(2) == 0}
	}
	return c
}

func TestAsTheModelGoes(t *testing.T) { // P15.2 to P15.7
	met := map[api.Errno]int{}
	blocked, shared := 0, 0
	for seed := range uint64(80) {
		next := chance(seed + 77)
		b := both{model.Begin(), begun(t, 1)}
		for range 100 {
			if len(b.Threads) == 0 {
				break
			}
			tid := b.Threads[next(len(b.Threads))].Tid
			c := someCall(next)
			var a api.Answer
			was := b.cage
			b, a = b.goes(t, tid, c)
			if c.Kind != api.CallAttach {
				continue
			}
			met[a.Err]++
			if a.Value != 0 {
				blocked++
			}
			if g, _ := attach.Of(b.cage, tid); a == (api.Answer{}) && len(b.cage.Pool.Nodes) > len(was.Pool.Nodes) {
				if n, _ := chain.Find(b.cage.Pool, g.Head); n.Count > 1 {
					shared++
				}
			}
		}
	}
	if met[api.OK] < 500 || met[api.EINVAL] < 100 || met[api.EACCES] < 10 || met[api.ENOMEM] < 10 || met[api.ESRCH] < 10 || blocked < 20 || shared < 50 {
		t.Error(met, blocked, shared)
	}
}
