package model_test

import (
	"fmt"
	"slices"
	"testing"

	"wicketgate/api"
	"wicketgate/model"
)

// words are what filters of these tests return, the least restrictive ones more often.
var words = []uint32{allow, allow | 7, allow | 9, allow, 0x7ffc0001, 0x7ff00002, 0x7fc00003, errno | 1, errno | 2, 0x00030004, killThread | 5, killProcess | 6, 0x00010007}

// someProgram answers a program; now and then one that may not be.
func someProgram(next func(n int) int) []api.Insn {
	word := words[next(len(words))]
	switch next(20) {
	case 0:
		return nil
	case 1:
		return []api.Insn{{Code: 0x20, K: uint32(next(80))}, {Code: 0x06, K: word}}
	case 2:
		return []api.Insn{{Code: 0x06, K: word}, {}}
	case 3, 4:
		return says(words[next(4)])
	case 5, 6, 7:
		return long(1+next(66), words[next(4)])
	case 8, 9:
		return []api.Insn{{Code: 0x20, K: 4}, {Code: 0x15, K: api.ArchOne, Jt: 1}, {Code: 0x06, K: word}, {Code: 0x06, K: allow}}
	}
	return only(uint32(next(64)), word)
}

// someCall answers a call that may be, and a thread that there is; 0, if there is none.
func someCall(next func(n int) int, w told) (int, api.Call) {
	var tids []int
	for tid := range 21 {
		if _, is := w.cred[tid]; is {
			tids = append(tids, tid)
		}
	}
	if len(tids) == 0 {
		return 0, api.Call{}
	}
	tid := tids[next(len(tids))]
	switch n := next(40); {
	case n < 14:
		flags := []int{0, 0, 0, 1, 1, 2, 3, 1, 3, 1, 1, 3, 0, 4}[n]
		return tid, attach(flags, someProgram(next))
	case n < 19:
		c := sys(uint32(next(64)))
		if next(4) == 0 {
			c.Data.Arch = api.ArchTwo
		}
		return tid, c
	case n < 21:
		return tid, drop(next(13) - 1)
	case n < 24:
		return tid, exec(next(13)-1, next(2) == 0)
	}
	kinds := []int{2, 3, 3, 3, 6, 6, 6, 6, 7, 7, 7, 7, 7, 9, 10, 11}
	return tid, kind(kinds[next(len(kinds))])
}

// some answers what comes of n calls, or of fewer, if nobody is left then.
func some(t *testing.T, next func(n int) int, n int) (told, api.Model) {
	t.Helper()
	w, m := first(), model.Begin()
	for range next(n) {
		tid, c := someCall(next, w)
		if tid == 0 {
			break
		}
		w, m, _ = goes(t, w, m, tid, c)
	}
	return w, m
}

func TestHistories(t *testing.T) { // P14.1 to P14.5
	next := chance(14)
	errs, kinds, values, endings := map[api.Errno]int{}, map[int]int{}, 0, 0
	for range 300 {
		w, m := first(), model.Begin()
		for range 120 {
			tid, c := someCall(next, w)
			if tid == 0 {
				break
			}
			before := twin(m)
			after, then, a := goes(t, w, m, tid, c)
			if !alike(m, before) {
				t.Fatalf("%d: %v: %v has become %v", tid, c, before, m)
			}
			follows(t, before, then, tid, c, a)
			errs[a.Err]++
			if a.Err == api.OK {
				kinds[c.Kind]++
			}
			if c.Kind == 1 && a.Value != 0 {
				values++
			}
			if c.Kind == 5 && a.Ended {
				endings++
			}
			w, m = after, then
		}
		tells(t, w, m, datas())
		if !model.Same(m, w.model()) || !checked(t, m) {
			t.Fatalf("Same of %v", m)
		}
	}
	for _, e := range []api.Errno{api.EINVAL, api.EACCES, api.EPERM, api.ENOMEM, api.ESRCH, api.EAGAIN, api.ECHILD} {
		if errs[e] < 10 {
			t.Errorf("the error %d came %d times", e, errs[e])
		}
	}
	for n := 1; n <= 11; n++ {
		if kinds[n] < 50 {
			t.Errorf("the Kind %d went %d times", n, kinds[n])
		}
	}
	if values < 50 || endings < 50 {
		t.Error(values, endings)
	}
}

func TestAllSmallOnes(t *testing.T) { // P14.1 to P14.5
	// All that comes of up to four calls, one behind the other, of these.
	calls := []api.Call{attach(0, says(a)), attach(1, says(allow)), attach(3, only(5, killThread)), attach(4, says(a)), sys(5), sys(60), drop(5), drop(10), exec(0, true), exec(10, true)}
	for _, n := range []int{2, 3, 6, 7, 9, 10, 11} {
		calls = append(calls, kind(n))
	}
	type place struct {
		w     told
		m     api.Model
		depth int
	}
	seen, work := map[string]bool{fmt.Sprint(model.Begin()): true}, []place{{first(), model.Begin(), 0}}
	for len(work) > 0 {
		p := work[0]
		work = work[1:]
		tells(t, p.w, p.m, []api.Data{sys(5).Data, sys(60).Data})
		if p.depth == 4 {
			continue
		}
		for _, x := range p.m.Threads {
			for _, c := range calls {
				w, m, a := goes(t, p.w, p.m, x.Tid, c)
				follows(t, p.m, m, x.Tid, c, a)
				if key := fmt.Sprint(m); !seen[key] {
					seen[key] = true
					work = append(work, place{w, m, p.depth + 1})
				}
			}
		}
	}
	if len(seen) < 5000 {
		t.Error(len(seen))
	}
}

func TestManyThreadsOfOneFilter(t *testing.T) { // P14.2, P14.5
	// Eight threads of four processes: what comes to all of one comes to it alone.
	m := plays(t, model.Begin(), play{1, attach(0, says(allow)), fine}, play{1, kind(api.CallFork), value(2)}, play{2, kind(api.CallFork), value(3)}, play{1, kind(api.CallFork), value(4)},
		play{1, kind(api.CallClone), value(5)}, play{2, kind(api.CallClone), value(6)}, play{3, kind(api.CallClone), value(7)}, play{6, kind(api.CallClone), value(8)})
	m = plays(t, m, play{8, attach(1, says(a)), fine})
	for _, x := range m.Threads {
		want := []int{1}
		if slices.Contains([]int{2, 6, 8}, x.Tid) {
			want = []int{2, 1}
		}
		if !slices.Equal(nums(x.Filters), want) {
			t.Error(x)
		}
	}
}
