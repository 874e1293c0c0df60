package steps_test

import (
	"fmt"
	"slices"
	"testing"

	"wicketgate/api"
	"wicketgate/steps"
)

// reached goes through all schedules to which three threads come by taking those locks of which may says so, giving up and ending, and answers how many there are, and how many of them are stuck.
func reached(t *testing.T, may func(owns []int, lock int) bool) (all, stuck int) {
	t.Helper()
	first := sched(nil, ready(1), ready(2), ready(3))
	seen, work := map[string]bool{fmt.Sprint(first): true}, []api.Sched{first}
	for len(work) > 0 {
		s := work[0]
		work = work[1:]
		all++
		if steps.Stuck(s) {
			stuck++
		}
		for id := 1; id <= 3; id++ {
			for _, c := range calls()[1:] {
				for n := 1; n <= 3; n++ {
					if c.name == "Forget" || c.name == "Take" && !may(steps.Owns(s, id), n) || !c.locks && n > 1 {
						continue
					}
					x, _, e := c.do(s, id, n)
					if key := fmt.Sprint(x); e == api.OK && !seen[key] {
						seen[key] = true
						inTurn(t, s, x, c.name, id, n)
						work = append(work, x)
					}
				}
			}
		}
	}
	return all, stuck
}

// inTurn holds it of each lock that those who ask for it stay in their order, whoever of them leaves.
func inTurn(t *testing.T, was, is api.Sched, name string, id, lock int) {
	t.Helper()
	line := func(s api.Sched, n int) []int {
		at := slices.IndexFunc(s.Locks, func(l api.Lock) bool { return l.Number == n })
		if at < 0 {
			return nil
		}
		return append([]int{s.Locks[at].Owner}, s.Locks[at].Queue...)
	}
	for n := 1; n <= 40; n++ {
		want := line(was, n)
		if name == "End" || name == "Give" && n == lock {
			want = without(want, id)
		}
		if name == "Take" && n == lock {
			want = append(want, id)
		}
		if got := line(is, n); !slices.Equal(got, want) {
			t.Fatalf("%s(%d, %d) of %v: of the lock %d %v, not %v", name, id, lock, was, n, got, want)
		}
	}
}

func TestRisingLocksAreNeverStuck(t *testing.T) { // P13.5
	rising, none := reached(t, func(owns []int, lock int) bool {
		return len(owns) == 0 || lock > slices.Max(owns)
	})
	any, some := reached(t, func([]int, int) bool { return true })
	if none != 0 || rising < 500 || some < 100 || any < rising+some {
		t.Errorf("rising: %d of %d are stuck; in any order: %d of %d", none, rising, some, any)
	}
}

func TestRisingLocksOfManyThreads(t *testing.T) { // P13.5
	waited := 0
	for seed := range uint64(200) {
		next := chance(seed)
		var s api.Sched
		for id := 1; id <= 8; id++ {
			s, _ = steps.Add(s, id)
		}
		for range 200 {
			id, ok := steps.Pick(s, next(1000))
			if !ok {
				t.Fatalf("nobody goes on: %v", s)
			}
			l := steps.Owns(s, id)
			lowest := append([]int{0}, l...)[len(l)]
			if len(l) > 0 && (lowest == 40 || next(3) == 0) {
				s, _ = steps.Give(s, id, l[next(len(l))])
			} else {
				var owns bool
				var e api.Errno
				if s, owns, e = steps.Take(s, id, min(40, lowest+1+next(6))); e != api.OK {
					t.Fatal(e)
				}
				if !owns {
					waited++
				}
			}
			if steps.Stuck(s) || steps.Check(s) != api.OK {
				t.Fatalf("stuck: %v", s)
			}
		}
		// Whoever is ready ends: all come to their turn.
		for range 8 {
			id, _ := steps.Pick(s, next(1000))
			s, _ = steps.End(s, id)
		}
		if len(s.Locks) != 0 || len(steps.Ready(s)) != 0 || steps.Stuck(s) {
			t.Fatalf("somebody is left: %v", s)
		}
	}
	if waited < 1000 {
		t.Error(waited)
	}
}

func TestInTheOrderOfAsking(t *testing.T) { // P13.5
	for seed := range uint64(300) {
		next := chance(seed)
		var s api.Sched
		var asked []int
		for len(asked) < 8 {
			id := next(20) + 1
			x, e := steps.Add(s, id)
			if e != api.OK {
				continue
			}
			y, owns, e := steps.Take(x, id, 7)
			if owns != (len(asked) == 0) || e != api.OK {
				t.Fatal(id, owns, e)
			}
			s, asked = y, append(asked, id)
		}
		for len(asked) > 0 {
			var e api.Errno
			at := 0
			if next(2) == 0 {
				s, e = steps.Give(s, asked[0], 7)
			} else {
				at = next(len(asked))
				s, e = steps.End(s, asked[at])
			}
			asked = slices.Delete(asked, at, at+1)
			if owner := steps.Owner(s, 7); e != api.OK || owner != append(slices.Clone(asked), 0)[0] {
				t.Fatalf("%d has it, not the first of %v; %d", owner, asked, e)
			}
		}
	}
}
