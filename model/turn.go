package model

import (
	"iter"
	"slices"

	"wicketgate/api"
	"wicketgate/check"
	"wicketgate/cred"
	"wicketgate/insn"
	"wicketgate/task"
)

// turn is a model that goes on by a call of one of its threads. What answers an Err has changed nothing.
type turn struct {
	api.Model
	tid, pid int
	call     api.Call
}

// answer does the call, which may be.
func (t *turn) answer() api.Answer {
	does := map[int]func() api.Answer{
		api.CallAttach: t.attach,
		api.CallStrict: func() api.Answer { return t.become(cred.Strict) },
		api.CallNoNew:  func() api.Answer { return t.become(cred.NoNew) },
		api.CallDrop:   t.drop,
		api.CallSys:    t.sys,
		api.CallFork:   func() api.Answer { return t.bring(task.Fork) },
		api.CallClone:  func() api.Answer { return t.bring(task.Clone) },
		api.CallExec:   t.exec,
		api.CallExit:   t.exit,
		api.CallGroup:  t.group,
		api.CallWait:   t.wait,
	}
	return does[t.call.Kind]()
}

// attach puts a filter ahead of the thread's list; with FlagSync so it is with all threads of the process, or with none.
func (t *turn) attach() api.Answer {
	program, e := t.program()
	if e != api.OK {
		return api.Answer{Err: e}
	}
	all := t.call.Flags&api.FlagSync != 0
	if tid := t.inTheWay(); all && tid != 0 {
		return t.blocked(tid)
	}
	x := t.thread(t.tid)
	x.Filters = slices.Insert(x.Filters, 0, api.Filter{Num: t.Next, Program: program})
	x.Cred.Mode = api.ModeFilter
	t.Next++
	if all {
		t.share(*x)
	}
	return api.Answer{}
}

// program answers what the thread attaches, if it may.
func (t *turn) program() ([]api.Insn, api.Errno) {
	x := t.thread(t.tid)
	program, fault := insn.DecodeAll(t.call.Bytes)
	_, forbids := check.Check(program)
	switch {
	case t.call.Flags < 0 || t.call.Flags > api.FlagSync|api.FlagEsrch:
		return nil, api.EINVAL
	case fault != api.OK || len(program) == 0 || len(program) > api.MaxProgram:
		return nil, api.EINVAL
	case !x.Cred.Admin && !x.Cred.NoNew:
		return nil, api.EACCES
	case forbids != api.OK || x.Cred.Mode == api.ModeStrict:
		return nil, api.EINVAL
	case Size(x.Filters)+weight(program) > api.MaxChain || Nodes(t.Model) == api.MaxNodes || t.Next == api.MaxNum:
		return nil, api.ENOMEM
	}
	return program, api.OK
}

// inTheWay answers the least Tid of the others to whom the thread's list may not come; 0, if there is none.
func (t *turn) inTheWay() int {
	own := t.thread(t.tid).Filters
	for x := range t.others() {
		if x.Cred.Mode == api.ModeStrict || !Behind(own, x.Filters) {
			return x.Tid
		}
	}
	return 0
}

// blocked answers that a thread is in the way, as Flags ask for it.
func (t *turn) blocked(tid int) api.Answer {
	if t.call.Flags&api.FlagEsrch != 0 {
		return api.Answer{Err: api.ESRCH}
	}
	return api.Answer{Value: tid}
}

// share lets all others have what x has come to.
func (t *turn) share(x api.Confined) {
	for y := range t.others() {
		y.Filters = twin(x).Filters
		y.Cred.Mode = x.Cred.Mode
		y.Cred.NoNew = y.Cred.NoNew || x.Cred.NoNew
	}
}

// become lets the thread have what change makes of its credentials.
func (t *turn) become(change func(c api.Cred) (api.Cred, api.Errno)) api.Answer {
	x := t.thread(t.tid)
	c, e := change(x.Cred)
	switch e {
	case api.OK:
		x.Cred = c
	case api.ErrArg:
		e = api.EINVAL
	}
	return api.Answer{Err: e}
}

// drop lets the thread be another user's.
func (t *turn) drop() api.Answer {
	return t.become(func(c api.Cred) (api.Cred, api.Errno) { return cred.Drop(c, t.call.Uid) })
}

// sys tells what is said of a call, and ends whom that ends.
func (t *turn) sys() api.Answer {
	var a api.Answer
	v, _ := said(*t.thread(t.tid), t.call.Data)
	switch v.Action {
	case api.KillThread:
		a = t.exit()
	case api.KillProcess:
		a = t.group()
	}
	a.Verdict = v
	return a
}

// bring brings a thread, which has what the calling one has.
func (t *turn) bring(begin func(tasks api.Tasks, tid int) (api.Tasks, int, api.Errno)) api.Answer {
	tasks, id, e := begin(t.Tasks, t.tid)
	if e != api.OK {
		return api.Answer{Err: e}
	}
	t.settle(tasks, id)
	return api.Answer{Value: id}
}

// exec lets the thread run a file, alone in its process.
func (t *turn) exec() api.Answer {
	a := t.become(func(c api.Cred) (api.Cred, api.Errno) { return cred.Exec(c, t.call.File) })
	if a.Err != api.OK {
		return a
	}
	tasks, _ := task.Exec(t.Tasks, t.tid)
	t.settle(tasks, t.pid)
	return api.Answer{Value: t.pid}
}

// exit ends the thread.
func (t *turn) exit() api.Answer {
	tasks, _ := task.End(t.Tasks, t.tid)
	t.settle(tasks, 0)
	return api.Answer{Ended: true}
}

// group ends the process.
func (t *turn) group() api.Answer {
	tasks, _ := task.Kill(t.Tasks, t.pid)
	t.settle(tasks, 0)
	return api.Answer{Ended: true}
}

// wait reaps a child.
func (t *turn) wait() api.Answer {
	tasks, pid, e := task.Reap(t.Tasks, t.tid)
	if e != api.OK {
		return api.Answer{Err: e}
	}
	t.Tasks = tasks
	return api.Answer{Value: pid}
}

// settle lets the tasks be these, and the threads those who live then. The one of the id heir has what the calling thread has, whoever had that id till now.
func (t *turn) settle(tasks api.Tasks, heir int) {
	threads := gathered(task.Live(tasks), func(tid int) api.Confined {
		if tid != heir {
			return *t.thread(tid)
		}
		x := twin(*t.thread(t.tid))
		x.Tid = heir
		return x
	})
	t.Tasks, t.Threads = tasks, threads
}

// thread answers a thread that is there.
func (t *turn) thread(tid int) *api.Confined {
	return &t.Threads[place(t.Model, tid)]
}

// others tells the other threads of the process, by rising Tids.
func (t *turn) others() iter.Seq[*api.Confined] {
	return func(yield func(*api.Confined) bool) {
		for _, tid := range task.Threads(t.Tasks, t.pid) {
			if tid != t.tid && !yield(t.thread(tid)) {
				return
			}
		}
	}
}
