package model_test

import (
	"testing"

	"wicketgate/api"
	"wicketgate/model"
	"wicketgate/task"
)

// follows holds what the document says of all that comes: was is the model ahead of a call, is the one behind it.
func follows(t *testing.T, was, is api.Model, tid int, c api.Call, a api.Answer) {
	t.Helper()
	if model.Check(is) != api.OK || a.Err != api.OK && !model.Same(was, is) {
		t.Fatalf("%d: %v: %v of %v", tid, c, is, was)
	}
	if is.Next < was.Next || is.Next > was.Next+1 {
		t.Fatalf("%d: %v: the Next %d of %d", tid, c, is.Next, was.Next)
	}
	for _, x := range is.Threads {
		// What it was, or whom it comes of: who made it, or ran a file.
		from := x.Tid
		if made := (c.Kind == api.CallFork || c.Kind == api.CallClone) && a.Value == x.Tid; made || c.Kind == api.CallExec && a.Err == api.OK && a.Value == x.Tid {
			from = tid
		}
		old, there := model.Of(was, from)
		if !there {
			t.Fatalf("%d: %v: %d comes of nobody", tid, c, x.Tid)
		}
		if !alikeThreads(old, x) {
			tighter(t, old, x)
		}
	}
	if c.Kind == api.CallAttach && c.Flags&api.FlagSync != 0 && a.Err == api.OK {
		atOnce(t, was, is, tid, a)
	}
}

// tighter holds it of a thread that it may no more than it might, nor whom it made.
func tighter(t *testing.T, old, x api.Confined) {
	t.Helper()
	if !model.Behind(x.Filters, old.Filters) {
		t.Fatalf("%v comes of %v", x, old)
	}
	if old.Cred.Mode == api.ModeStrict && x.Cred.Mode != api.ModeStrict || old.Cred.Mode == api.ModeFilter && x.Cred.Mode != api.ModeFilter || old.Cred.NoNew && !x.Cred.NoNew {
		t.Fatalf("%v comes of %v", x, old)
	}
	for _, d := range []api.Data{sys(0).Data, sys(5).Data, sys(15).Data, sys(33).Data, {Nr: 60, Arch: api.ArchTwo}} {
		before, _, _ := model.Verdict(old, d)
		now, _, e := model.Verdict(x, d)
		if e != api.OK || now.Action > before.Action {
			t.Fatalf("of %v: %v says %v, and %v said %v", d, x, now, old, before)
		}
	}
}

// atOnce holds it of all threads of a process that a filter has come to all at once, or to none.
func atOnce(t *testing.T, was, is api.Model, tid int, a api.Answer) {
	t.Helper()
	if a.Value != 0 {
		if !model.Same(was, is) {
			t.Fatalf("%v has become %v", was, is)
		}
		return
	}
	pid, _ := task.Of(is.Tasks, tid)
	self, _ := model.Of(is, tid)
	for _, x := range is.Threads {
		old, _ := model.Of(was, x.Tid)
		home, _ := task.Of(is.Tasks, x.Tid)
		if home != pid && !alikeThreads(x, old) {
			t.Fatalf("%v, of another process, was %v", x, old)
		}
		if home == pid && (!alikeLists(x.Filters, self.Filters) || x.Cred.Mode != api.ModeFilter || self.Cred.NoNew && !x.Cred.NoNew) {
			t.Fatalf("%v has not what %v has", x, self)
		}
	}
}

func TestLessRestrictiveNever(t *testing.T) { // P14.5
	// Whatever 1 attaches from now on, it never comes to more than the first one says; nor does whom it makes.
	for _, first := range words {
		m := plays(t, model.Begin(), play{1, attach(0, only(5, first)), fine}, play{1, kind(api.CallClone), value(2)})
		was, _ := model.Of(m, 1)
		before, _, _ := model.Verdict(was, sys(5).Data)
		for _, second := range words {
			m := plays(t, m, play{2, attach(0, says(second)), fine})
			x, _ := model.Of(m, 2)
			if v, _, e := model.Verdict(x, sys(5).Data); v.Action > before.Action || e != api.OK {
				t.Errorf("%x, %x: %v, %v", first, second, before, v)
			}
			tighter(t, was, x)
		}
	}
}
