package steps

import (
	"cmp"
	"slices"

	"wicketgate/api"
)

// Check answers OK, if s may be; else ErrSched (P13.1).
func Check(s api.Sched) api.Errno {
	if len(s.Runs) > api.MaxThreads || !rise(s.Runs, api.MaxPid, idOf) || !rise(s.Locks, api.MaxLock, numberOf) {
		return api.ErrSched
	}
	if slices.ContainsFunc(s.Runs, strange) || !owners(s) || !queues(s) {
		return api.ErrSched
	}
	return api.OK
}

// rise says whether the rows' numbers rise, from 1 to most.
func rise[R any](rows []R, most int, number func(R) int) bool {
	last := 0
	for _, r := range rows {
		if number(r) <= last || number(r) > most {
			return false
		}
		last = number(r)
	}
	return true
}

// strange says whether a thread's State is none, or it wants a lock without waiting.
func strange(r api.Run) bool {
	return r.State < api.RunReady || r.State > api.RunOver || r.Wants != 0 && !waits(r)
}

// waits says whether a thread waits.
func waits(r api.Run) bool {
	return r.State == api.RunWaits
}

// owners says whether each lock's Owner may be. The Ids rise.
func owners(s api.Sched) bool {
	for _, l := range s.Locks {
		if !lives(s, l.Owner) || slices.Contains(l.Queue, l.Owner) {
			return false
		}
	}
	return true
}

// queues says whether those who are in the Queues are just those who wait, each once, for that lock. The Ids rise.
func queues(s api.Sched) bool {
	left := 0
	for _, r := range s.Runs {
		if waits(r) {
			left++
		}
	}
	for _, l := range s.Locks {
		for i, id := range l.Queue {
			// Who is in two Queues wants another lock in one of them.
			at, there := run(s, id)
			if !there || s.Runs[at] != (api.Run{Id: id, State: api.RunWaits, Wants: l.Number}) || slices.Contains(l.Queue[:i], id) {
				return false
			}
			left--
		}
	}
	return left == 0
}

// lives says whether a thread is there and not over. The Ids rise.
func lives(s api.Sched, id int) bool {
	at, there := run(s, id)
	return there && s.Runs[at].State != api.RunOver
}

// run answers where a thread stands, or would stand, and whether it is there. The Ids rise.
func run(s api.Sched, id int) (int, bool) {
	return place(s.Runs, id, idOf)
}

// held answers where a lock stands, or would stand, and whether it is there. The Numbers rise.
func held(s api.Sched, lock int) (int, bool) {
	return place(s.Locks, lock, numberOf)
}

// place answers where the row of that number stands, or would stand, and whether it is there. The rows rise by their numbers.
func place[R any](rows []R, n int, number func(R) int) (int, bool) {
	return slices.BinarySearchFunc(rows, n, func(r R, n int) int { return cmp.Compare(number(r), n) })
}

func idOf(r api.Run) int {
	return r.Id
}

func numberOf(l api.Lock) int {
	return l.Number
}
