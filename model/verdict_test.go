package model_test

import (
	"math"
	"slices"
	"testing"

	"wicketgate/api"
	"wicketgate/model"
)

// datas are some calls' data.
func datas() []api.Data {
	l := []api.Data{{}, {Nr: 1}, {Nr: 2}, {Nr: 15, Arch: api.ArchTwo}, {Nr: 5, Arch: api.ArchTwo}}
	for _, nr := range []uint32{0, 1, 2, 3, 5, 14, 15, 16, 59, 60, 61, 1 << 31, math.MaxUint32} {
		l = append(l, sys(nr).Data)
	}
	return l
}

func TestVerdict(t *testing.T) { // P14.3
	for i, p := range []struct {
		x    api.Confined
		want api.Verdict
		num  int
	}{
		{thread(1, admin), api.Verdict{Action: api.Allow}, 0}, {thread(1, held), api.Verdict{Action: api.Allow}, 0},
		{thread(1, with(user, 2), filter(3, a)), api.Verdict{Action: api.Refuse, Data: 1}, 3},
		{thread(1, with(user, 2), filter(3, allow)), api.Verdict{Action: api.Allow}, 3}, {thread(1, with(user, 2), filter(3, allow|9)), api.Verdict{Action: api.Allow, Data: 9}, 3},
		// The most restrictive one; of several the newest.
		{thread(1, with(user, 2), filter(3, allow), filter(2, a)), api.Verdict{Action: api.Refuse, Data: 1}, 2},
		{thread(1, with(user, 2), filter(3, a), filter(2, allow)), api.Verdict{Action: api.Refuse, Data: 1}, 3},
		{thread(1, with(user, 2), filter(3, errno|3), filter(2, errno|2), filter(1, errno|1)), api.Verdict{Action: api.Refuse, Data: 3}, 3},
		{thread(1, with(user, 2), filter(3, allow), filter(2, errno|2), filter(1, errno|1)), api.Verdict{Action: api.Refuse, Data: 2}, 2},
		{thread(1, with(user, 2), filter(3, allow|3), filter(2, allow|2)), api.Verdict{Action: api.Allow, Data: 3}, 3},
		{thread(1, with(user, 2), filter(3, a), filter(2, 0), filter(1, killProcess|4)), api.Verdict{Action: api.KillProcess, Data: 4}, 1},
		{thread(1, with(user, 2), filter(3, 0), filter(2, 0x00010002), filter(1, killProcess|4)), api.Verdict{Action: api.KillProcess, Data: 2}, 2},
		// The Nums and the Tid are not asked.
		{thread(-9, with(user, 2), filter(0, a)), api.Verdict{Action: api.Refuse, Data: 1}, 0}, {thread(99, with(user, 2), filter(-3, allow), filter(7, a), filter(7, a)), api.Verdict{Action: api.Refuse, Data: 1}, 7}, {thread(0, with(user, 2), filter(math.MaxInt, a)), api.Verdict{Action: api.Refuse, Data: 1}, math.MaxInt},
		// Nor is the size.
		{thread(1, with(user, 2), slices.Repeat([]api.Filter{{Num: 3, Program: long(64, a)}}, 9)...), api.Verdict{Action: api.Refuse, Data: 1}, 3},
	} {
		for _, d := range datas() {
			if v, num, e := model.Verdict(p.x, d); v != p.want || num != p.num || e != api.OK {
				t.Errorf("case %d, %v: %v, %d, %d", i, d, v, num, e)
			}
		}
	}
}

func TestVerdictOfWhatMayNotBe(t *testing.T) { // P14.3
	bad := [][]api.Insn{nil, {}, {{}}, {{Code: 0x94}, {Code: 6}}, {{Code: 0x20, K: 1}, {Code: 6}}, long(65, a), {{Code: 0x34}, {Code: 6}}}
	var l []api.Confined
	for _, mode := range []int{0, 1, 2, 3, -1, math.MaxInt, math.MinInt} {
		for _, uid := range []int{0, 9, 10, -1, math.MaxInt, math.MinInt} {
			c := api.Cred{Uid: uid, Mode: mode}
			may := uid >= 0 && uid <= 9 && mode >= 0 && mode <= 2
			if !may || mode == 2 {
				l = append(l, thread(1, c))
			}
			if !may || mode != 2 {
				l = append(l, thread(1, c, filter(1, a)), thread(1, c, filter(2, allow), filter(1, a)))
			}
			for _, p := range bad {
				f := api.Filter{Num: 1, Program: p}
				l = append(l, thread(1, c, f), thread(1, c, filter(2, killProcess), f), thread(1, c, f, filter(2, a)))
			}
		}
	}
	for _, x := range l {
		for _, d := range datas() {
			if v, num, e := model.Verdict(x, d); v != (api.Verdict{}) || num != 0 || e != api.ErrModel {
				t.Fatalf("%v, %v: %v, %d, %d", x, d, v, num, e)
			}
		}
		if checked(t, of(5, tasks(1, proc(1, 0, 1)), x)) {
			t.Fatalf("%v may not be", x)
		}
	}
}

func TestStrictMode(t *testing.T) { // P14.3
	for _, c := range []api.Cred{strict, with(admin, 1), with(held, 1)} {
		for _, arch := range []uint32{0, 1, api.ArchOne, api.ArchOne - 1, api.ArchOne + 1, api.ArchTwo, 0x3E, math.MaxUint32} {
			for nr := range uint32(300) {
				for _, d := range []api.Data{{Nr: nr, Arch: arch}, {Nr: nr, Arch: arch, Ip: 9, Args: [6]uint64{1, 2, 3, 4, 5, 6}}, {Nr: 1<<31 + nr, Arch: arch}, {Nr: math.MaxUint32 - nr, Arch: arch}} {
					want := api.Verdict{Action: api.KillThread}
					if arch == api.ArchOne && slices.Contains([]uint32{0, 1, 15, 60}, d.Nr) {
						want = api.Verdict{Action: api.Allow}
					}
					if v, num, e := model.Verdict(thread(1, c), d); v != want || num != 0 || e != api.OK {
						t.Fatalf("%v: %v, %d, %d", d, v, num, e)
					}
				}
			}
		}
	}
}

func TestToldOfWhatMayNotBe(t *testing.T) { // P14.4
	// The first one of that Tid; whatever else there is.
	m := of(-3, api.Tasks{}, thread(5, admin), thread(2, user, filter(9, a), filter(9, a), filter(-1, a)), thread(5, held), thread(0, strict, filter(7, a), api.Filter{}))
	for _, p := range []struct {
		tid int
		x   api.Confined
		ok  bool
	}{{5, m.Threads[0], true}, {2, m.Threads[1], true}, {0, m.Threads[3], true}, {1, api.Confined{}, false}, {-1, api.Confined{}, false}, {math.MaxInt, api.Confined{}, false}} {
		if x, ok := model.Of(m, p.tid); !alikeThreads(x, p.x) || ok != p.ok {
			t.Errorf("Of(%d): %v, %t", p.tid, x, ok)
		}
	}
	if n := model.Nodes(m); n != 4 {
		t.Error(n)
	}
	if model.Nodes(api.Model{}) != 0 || model.Nodes(two(5, list(1), nil)) != 1 || model.Nodes(two(5, list(1), list(1))) != 1 || model.Nodes(two(5, list(3, 1), list(2, 1))) != 3 || model.Nodes(two(5, list(1, 2), list(1, 2, 1))) != 2 {
		t.Error("Nodes")
	}
	// Whose Tid is none the tasks may name, or not.
	if x, ok := model.Of(of(1, tasks(1, proc(1, 0, 1))), 1); ok || !alikeThreads(x, api.Confined{}) {
		t.Error(x, ok)
	}
}

func TestSize(t *testing.T) { // P14.4
	for i, p := range []struct {
		l []api.Filter
		n int
	}{
		{nil, 0}, {[]api.Filter{}, 0}, {list(1), 5}, {list(2, 1), 10}, {[]api.Filter{{}}, 4}, {[]api.Filter{{}, {}, {}}, 12}, {[]api.Filter{{Num: 1, Program: long(64, a)}}, 68}, {[]api.Filter{{Program: make([]api.Insn, 300)}, filter(1, a)}, 309},
	} {
		if n := model.Size(p.l); n != p.n {
			t.Errorf("case %d: %d", i, n)
		}
	}
}

func TestBehind(t *testing.T) { // P14.4
	all := [][]int{{}}
	for from := 0; len(all[from]) < 4; from++ {
		for num := range 3 {
			all = append(all, append(slices.Clone(all[from]), num))
		}
	}
	for _, k := range all {
		for _, l := range all {
			want := len(l) <= len(k)
			for at := range l {
				want = want && k[len(k)-1-at] == l[len(l)-1-at]
			}
			if is := model.Behind(list(k...), list(l...)); is != want {
				t.Errorf("%v, %v: %t", k, l, is)
			}
			// By Nums alone.
			other := list(l...)
			for at := range other {
				other[at].Program = nil
			}
			if is := model.Behind(list(k...), other); is != want {
				t.Errorf("%v, %v, other programs: %t", k, l, is)
			}
		}
	}
	if !model.Behind(nil, nil) || !model.Behind(nil, []api.Filter{}) || !model.Behind([]api.Filter{}, nil) || !model.Behind(list(1), []api.Filter{}) || model.Behind(nil, list(1)) {
		t.Error("nil and empty are one")
	}
}

func TestSame(t *testing.T) { // P14.4
	alone := tasks(1, proc(1, 0, 1))
	var l []api.Model
	for _, x := range []api.Tasks{{}, alone, tasks(2, proc(1, 0, 1)), tasks(1, proc(1, 0, 1, 2)), tasks(1, proc(1, 2, 1)), tasks(1, proc(2, 0, 1)), {Procs: alone.Procs}, {Pids: alone.Pids}} {
		for _, next := range []int{0, 1} {
			for _, threads := range [][]api.Confined{nil, {{}}, {thread(1, admin)}, {thread(2, admin)}, {thread(1, user)}, {thread(1, held)}, {thread(1, strict)}, {thread(1, admin, filter(1, a))}, {thread(1, admin, filter(2, a))}, {thread(1, admin, filter(1, allow))}, {thread(1, admin, api.Filter{Num: 1, Program: long(2, a)})}, {thread(1, admin, api.Filter{Num: 1})}, {thread(1, admin, filter(2, a), filter(1, a))}, {thread(1, admin, filter(1, a), filter(2, a))}, {thread(1, admin), thread(2, admin)}, {thread(2, admin), thread(1, admin)}, {thread(1, admin), thread(1, admin)}} {
				l = append(l, of(next, x, threads...))
			}
		}
	}
	for i, one := range l {
		for j, other := range l {
			if is := model.Same(one, twin(other)); is != (i == j) {
				t.Fatalf("Same of %v and %v: %t", one, other, is)
			}
		}
	}
	empty := api.Model{Tasks: api.Tasks{Pids: api.Pids{Used: []int{}}, Procs: []api.Proc{{Threads: []int{}}}}, Threads: []api.Confined{{Filters: []api.Filter{}}, {Filters: []api.Filter{{Program: []api.Insn{}}}}}}
	none := api.Model{Tasks: api.Tasks{Procs: []api.Proc{{}}}, Threads: []api.Confined{{}, {Filters: []api.Filter{{}}}}}
	if !model.Same(empty, none) || !model.Same(none, empty) || !model.Same(api.Model{}, api.Model{Threads: []api.Confined{}}) {
		t.Error("nil and empty are one")
	}
}
