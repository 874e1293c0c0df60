package task

import (
	"slices"

	"wicketgate/api"
	"wicketgate/pids"
)

// Check answers OK, if t may be; else ErrTasks (P12.1).
func Check(t api.Tasks) api.Errno {
	if !few(t) || pids.Check(t.Pids) != api.OK || !inOrder(t) || !slices.Equal(t.Pids.Used, ids(t)) || !rooted(t) {
		return api.ErrTasks
	}
	return api.OK
}

// few says whether there are no more processes and threads than there may be.
func few(t api.Tasks) bool {
	return len(t.Procs) <= api.MaxProcs && count(t) <= api.MaxThreads
}

// inOrder says whether the Pids rise, and each process's threads.
func inOrder(t api.Tasks) bool {
	var l []int
	for _, p := range t.Procs {
		if !rise(p.Threads) {
			return false
		}
		l = append(l, p.Pid)
	}
	return rise(l)
}

// rise says whether the ids rise, none twice.
func rise(l []int) bool {
	for at := range l {
		if at > 0 && l[at-1] >= l[at] {
			return false
		}
	}
	return true
}

// ids answers all Pids, and all threads' ids, by rising ones: each once, if no two who may not share one do.
func ids(t api.Tasks) []int {
	var l []int
	for _, p := range t.Procs {
		l = append(l, p.Pid)
	}
	for at, tid := range threads(t) {
		if tid != t.Procs[at].Pid {
			l = append(l, tid)
		}
	}
	slices.Sort(l)
	return l
}

// rooted says whether each process's Parent may be. The Pids rise.
func rooted(t api.Tasks) bool {
	for _, p := range t.Procs {
		if ended(p) && p.Parent == 0 || !comesToNone(t, p) {
			return false
		}
	}
	return true
}

// comesToNone says whether one comes from p to 0, from Parent to Parent, over processes that have not ended.
func comesToNone(t api.Tasks, p api.Proc) bool {
	// Who meets more Parents than there are processes goes round.
	for range t.Procs {
		if p.Parent == 0 {
			return true
		}
		at, runs := running(t, p.Parent)
		if !runs {
			return false
		}
		p = t.Procs[at]
	}
	return false
}
