package model_test

import (
	"math"
	"slices"
	"testing"

	"wicketgate/api"
	"wicketgate/model"
)

// two answers a model of two threads, which have these lists.
func two(next int, k, l []api.Filter) api.Model {
	c, d := user, admin
	if len(k) > 0 {
		c.Mode = 2
	}
	if len(l) > 0 {
		d.Mode = 2
	}
	return of(next, tasks(2, proc(1, 0, 1, 2)), thread(1, c, k...), thread(2, d, l...))
}

// list answers a list of filters that return one word alone.
func list(nums ...int) []api.Filter {
	var l []api.Filter
	for _, n := range nums {
		l = append(l, filter(n, uint32(errno|n)))
	}
	return l
}

func TestCheckWrittenOut(t *testing.T) { // P14.1
	alone := tasks(1, proc(1, 0, 1))
	other := func(l []api.Filter, at int, program []api.Insn) []api.Filter {
		l = twinList(l)
		l[at].Program = program
		return l
	}
	big := []api.Filter{{Num: 4, Program: long(64, a)}, {Num: 3, Program: long(64, a)}, {Num: 2, Program: long(64, a)}, {Num: 1, Program: long(48, a)}}
	down := func(from, to int) []int {
		var l []int
		for ; from >= to; from-- {
			l = append(l, from)
		}
		return l
	}
	for i, m := range []api.Model{
		model.Begin(), of(1, api.Tasks{}), of(1<<30, api.Tasks{}), of(1, api.Tasks{Pids: api.Pids{Last: 20}}), of(1<<30, alone, thread(1, admin)), of(1, alone, thread(1, strict)),
		of(2, alone, thread(1, with(user, 2), filter(1, a))), of(1<<30, alone, thread(1, with(user, 2), filter(1<<30-1, a), filter(1, a))),
		two(5, nil, nil), two(5, list(1), nil), two(5, list(1), list(1)), two(5, list(1), list(2)), two(5, list(2, 1), list(1)), two(5, list(3, 1), list(2, 1)), two(5, list(3, 1), list(2)), two(5, list(4, 3, 1), list(4, 3, 1)), two(5, list(4, 2), list(3, 2)), two(5, list(3, 2, 1), list(4, 2, 1)),
		two(5, big, nil), two(5, big, big), two(25, list(down(24, 1)...), nil), two(25, list(down(24, 1)...), list(down(24, 1)...)), two(25, list(down(24, 13)...), list(down(12, 1)...)), two(25, list(down(23, 1)...), list(append([]int{24}, down(20, 1)...)...)),
	} {
		if !checked(t, m) {
			t.Errorf("case %d: %v may be", i, m)
		}
	}
	for i, m := range []api.Model{
		// Next, and Nums.
		{}, of(0, alone, thread(1, admin)), of(-1, alone, thread(1, admin)), of(1<<30+1, alone, thread(1, admin)), of(math.MaxInt, alone, thread(1, admin)), of(math.MinInt, alone, thread(1, admin)),
		two(2, list(2), nil), two(2, nil, list(3)), two(2, list(3, 1), nil), two(1, list(1), nil), two(0, list(0), nil), two(1<<30+1, list(1<<30), nil), two(5, list(0), nil), two(5, list(1, 0), nil), two(5, list(-1), nil), two(5, nil, list(4, 2, -1)), two(5, list(math.MinInt), nil),
		two(5, list(1, 2), nil), two(5, list(1, 1), nil), two(5, list(3, 1, 2), nil), two(5, list(3, 1, 1), nil), two(5, list(2, 2, 1), nil), two(5, list(1), list(1, 2)), two(5, list(math.MaxInt, 1), nil),
		// Tails.
		two(5, list(2, 1), list(2)), two(5, list(2), list(2, 1)), two(5, list(3, 2), list(3, 1)), two(5, list(4, 2, 1), list(3, 2)), two(5, list(4, 3, 1), list(4, 2, 1)), two(5, list(4, 3, 2, 1), list(4, 3, 2)), two(5, list(3, 2, 1), list(3, 1)),
		two(5, list(1), other(list(1), 0, says(allow))), two(5, list(2, 1), other(list(2, 1), 1, says(allow))), two(5, list(2, 1), other(list(3, 1), 1, says(allow))), two(5, list(2, 1), other(list(2, 1), 0, long(2, errno|2))),
		// Programs.
		two(5, other(list(1), 0, nil), nil), two(5, other(list(2, 1), 1, []api.Insn{{}}), nil), two(5, nil, other(list(3, 2, 1), 1, long(65, a))), two(5, other(list(1), 0, []api.Insn{{Code: 0x94}, {Code: 6}}), other(list(1), 0, []api.Insn{{Code: 0x94}, {Code: 6}})), two(5, list(1), other(list(2, 1), 0, []api.Insn{{Code: 0x20, K: 64}, {Code: 6}})),
		// Sizes, and how many.
		two(5, other(big, 3, long(49, a)), nil), two(5, other(big, 0, long(65, a)), nil), two(5, nil, other(big, 2, long(65, a))), two(6, append([]api.Filter{filter(5, a)}, big...), nil), two(6, big, append([]api.Filter{filter(5, a)}, big...)),
		two(26, list(down(25, 1)...), nil), two(26, list(down(25, 13)...), list(down(12, 1)...)), two(26, list(down(24, 1)...), list(append([]int{25}, down(24, 1)...)...)),
		// Modes, credentials.
		of(5, alone, thread(1, admin, filter(1, a))), of(5, alone, thread(1, strict, filter(1, a))), of(5, alone, thread(1, with(user, 2))), of(5, alone, thread(1, with(user, 3))), of(5, alone, thread(1, with(user, -1))), of(5, alone, thread(1, with(user, 3), filter(1, a))), of(5, alone, thread(1, api.Cred{Uid: 10})), of(5, alone, thread(1, api.Cred{Uid: -1})), of(5, alone, thread(1, api.Cred{Uid: 10, Mode: 2}, filter(1, a))),
		// Threads.
		of(1, alone), of(1, alone, thread(2, admin)), of(1, alone, thread(0, admin)), of(1, alone, thread(1, admin), thread(1, admin)), of(1, alone, thread(1, admin), thread(2, admin)), of(1, tasks(2, proc(1, 0, 1, 2)), thread(2, admin), thread(1, admin)), of(1, tasks(2, proc(1, 0, 1, 2)), thread(1, admin)), of(1, tasks(2, proc(1, 0, 1, 2)), thread(2, admin)), of(1, tasks(2, proc(1, 0, 1), proc(2, 1)), thread(1, admin), thread(2, admin)), of(1, api.Tasks{}, thread(1, admin)),
		// Tasks.
		of(1, tasks(1, proc(1, 1, 1)), thread(1, admin)), of(1, tasks(21, proc(1, 0, 1)), thread(1, admin)), of(1, api.Tasks{Procs: []api.Proc{proc(1, 0, 1)}}, thread(1, admin)), of(1, tasks(2, proc(1, 0, 1), proc(2, 0)), thread(1, admin)), of(1, tasks(2, proc(2, 0, 2), proc(1, 0, 1)), thread(1, admin), thread(2, admin)), of(1, tasks(9, proc(1, 0, 1, 2, 3, 4, 5, 6, 7, 8, 9)), thread(1, user), thread(2, user), thread(3, user), thread(4, user), thread(5, user), thread(6, user), thread(7, user), thread(8, user), thread(9, user)),
	} {
		if checked(t, m) {
			t.Errorf("case %d: %v may not be", i, m)
		}
	}
}

func TestCheckOfBrokenOnes(t *testing.T) { // P14.1, P14.2
	next := chance(19)
	for range 60 {
		_, m := some(t, next, 60)
		var places []func(m *api.Model) *int
		for at, x := range m.Threads {
			places = append(places, func(m *api.Model) *int { return &m.Threads[at].Tid }, func(m *api.Model) *int { return &m.Threads[at].Cred.Uid }, func(m *api.Model) *int { return &m.Threads[at].Cred.Mode })
			for i := range x.Filters {
				places = append(places, func(m *api.Model) *int { return &m.Threads[at].Filters[i].Num })
			}
		}
		places = append(places, func(m *api.Model) *int { return &m.Next }, func(m *api.Model) *int { return &m.Tasks.Pids.Last })
		for at := range m.Tasks.Pids.Used {
			places = append(places, func(m *api.Model) *int { return &m.Tasks.Pids.Used[at] })
		}
		for at, p := range m.Tasks.Procs {
			places = append(places, func(m *api.Model) *int { return &m.Tasks.Procs[at].Pid }, func(m *api.Model) *int { return &m.Tasks.Procs[at].Parent })
			for i := range p.Threads {
				places = append(places, func(m *api.Model) *int { return &m.Tasks.Procs[at].Threads[i] })
			}
		}
		for _, place := range places {
			for _, n := range []int{*place(&m) - 1, *place(&m) + 1, next(30), strange[next(len(strange))], 1 << 30, 1<<30 + 1} {
				x := twin(m)
				*place(&x) = n
				checked(t, x)
				*places[next(len(places))](&x) = next(12)
				checked(t, x)
			}
		}
		for range 20 {
			checked(t, without(m, next))
			checked(t, otherProgram(m, next))
			checked(t, otherList(m, next))
		}
	}
}

// without answers m with something left out, or twice there.
func without(m api.Model, next func(n int) int) api.Model {
	x := twin(m)
	if len(x.Threads) == 0 {
		return x
	}
	at := next(len(x.Threads))
	switch l := x.Threads[at].Filters; next(5) {
	case 0:
		x.Threads = slices.Delete(x.Threads, at, at+1)
	case 1:
		x.Threads = slices.Insert(x.Threads, at, x.Threads[at])
	case 2:
		x.Threads[at].Filters = l[:next(len(l)+1)]
	case 3:
		x.Threads[at].Filters = l[next(len(l)+1):]
	case 4:
		to := next(len(x.Threads))
		x.Threads[at], x.Threads[to] = x.Threads[to], x.Threads[at]
	}
	return x
}

// otherProgram answers m with one instruction another one.
func otherProgram(m api.Model, next func(n int) int) api.Model {
	x := twin(m)
	for range 9 {
		if len(x.Threads) == 0 {
			break
		}
		l := x.Threads[next(len(x.Threads))].Filters
		if len(l) == 0 {
			continue
		}
		p := l[next(len(l))].Program
		switch at := next(len(p)); next(3) {
		case 0:
			p[at].K++
		case 1:
			p[at].Jt++
		case 2:
			p[at].Code = 0x06
		}
		break
	}
	return x
}

// otherList answers m with one thread's list in the place of another one's, or of a part of that.
func otherList(m api.Model, next func(n int) int) api.Model {
	x := twin(m)
	if len(x.Threads) == 0 {
		return x
	}
	from, to := next(len(x.Threads)), next(len(x.Threads))
	k, l := x.Threads[from].Filters, x.Threads[to].Filters
	all := slices.Concat(l[:next(len(l)+1)], twinList(k[next(len(k)+1):]))
	x.Threads[to].Filters, x.Threads[to].Cred.Mode = all, 0
	if len(all) > 0 {
		x.Threads[to].Cred.Mode = 2
	}
	return x
}

func TestCheckOfAllSmallLists(t *testing.T) { // P14.1
	// All lists of so many Nums at most, each with one of two programs, of two threads.
	small := func(most int, among []int) [][]api.Filter {
		lists := [][]api.Filter{nil}
		for from := 0; from < len(lists); from++ {
			for _, num := range among {
				for _, word := range []uint32{errno, allow} {
					if len(lists[from]) < most {
						lists = append(lists, append(twinList(lists[from]), filter(num, word)))
					}
				}
			}
		}
		return lists
	}
	for _, p := range []struct {
		next  int
		lists [][]api.Filter
		may   int
	}{
		// Of n Nums there are 5^n without one that both have; with one, that is the newest, the m-th, there are 2*3^(m-1)*5^(n-m).
		{3, small(2, []int{0, 1, 2, 3}), 25 + 10 + 6},
		{4, small(3, []int{1, 2, 3}), 125 + 50 + 30 + 18},
	} {
		may := 0
		for _, k := range p.lists {
			for _, l := range p.lists {
				m := two(p.next, k, l)
				e := model.Check(m)
				if is := mayBe(m); is != (e == api.OK) || !is && e != api.ErrModel {
					t.Fatalf("Check of %v: %d", m, e)
				}
				if e == api.OK {
					may++
				}
			}
		}
		if may != p.may {
			t.Error(may, p.may)
		}
	}
}

func TestCheckCall(t *testing.T) { // P14.1
	numbers := []int{0, 1, 2, 3, 4, -1, 10, math.MinInt, math.MaxInt, 1 << 32}
	datas := []api.Data{{}, {Nr: 1}, {Arch: api.ArchOne}, {Ip: 1 << 40}}
	for i := range 6 {
		d := api.Data{}
		d.Args[i] = 1 << 40
		datas = append(datas, d)
	}
	may := 0
	for _, n := range slices.Concat(upTo(13), []int{0, -1, -11, math.MinInt, math.MaxInt, 1<<32 + 1, 1 << 32, 257}) {
		for _, flags := range numbers {
			for _, uid := range numbers {
				for _, b := range [][]byte{nil, {}, {0}, {0, 0}, make([]byte, 1<<12)} {
					for _, f := range []api.File{{}, {Owner: 1}, {SetUid: true}, {Owner: math.MinInt}, {Owner: 10, SetUid: true}} {
						for _, d := range datas {
							c := api.Call{Kind: n, Flags: flags, Uid: uid, Bytes: b, File: f, Data: d}
							e := model.CheckCall(c)
							if is := mayCall(c); is != (e == api.OK) || !is && e != api.ErrCall {
								t.Fatalf("CheckCall of %v: %d", c, e)
							}
							if e == api.OK {
								may++
							}
						}
					}
				}
			}
		}
	}
	// Nil and empty Bytes are one.
	if want := 10*5 + 2*10 + 2*10 + 2*5 + 7*2; may != want {
		t.Error(may, want)
	}
}

func TestCallsThatMayNotBe(t *testing.T) { // P14.2
	m := plays(t, model.Begin(), play{1, kind(api.CallClone), value(2)})
	for n := -1; n <= 13; n++ {
		for _, c := range []api.Call{{}, {Flags: 1}, {Uid: 1}, {Bytes: []byte{0}}, {File: api.File{Owner: 1}}, {File: api.File{SetUid: true}}, {Data: api.Data{Ip: 1}}} {
			c.Kind = n
			for _, tid := range []int{1, 2, 3, 0} {
				got, x, e := model.Do(m, tid, c)
				switch {
				case !mayCall(c):
					if !alike(got, api.Model{}) || x != fine || e != api.ErrCall {
						t.Errorf("%d: %v: %v, %v, %d", tid, c, got, x, e)
					}
				case tid == 3 || tid == 0:
					if !alike(got, api.Model{}) || x != fine || e != api.ESRCH {
						t.Errorf("%d: %v: %v, %v, %d", tid, c, got, x, e)
					}
				default:
					goes(t, tell(m), m, tid, c)
				}
			}
		}
	}
}

func TestVeryMany(t *testing.T) { // P14.1 to P14.4, R1
	many, filters, deep := make([]api.Confined, 1<<18), make([]api.Filter, 1<<18), make([]api.Insn, 1<<20)
	for i := range many {
		many[i].Tid, filters[i] = i+1, filter(1<<18-i, a)
	}
	alone := tasks(1, proc(1, 0, 1))
	for _, m := range []api.Model{
		{Threads: many, Next: 1}, of(1, alone, many...), of(1<<19, alone, thread(1, with(user, 2), filters...)), of(5, alone, thread(1, with(user, 2), api.Filter{Num: 1, Program: deep})), of(1<<19, alone, thread(1, with(user, 2), make([]api.Filter, 1<<18)...)),
	} {
		if checked(t, m) {
			t.Error("more than there may be")
		}
	}
	x := thread(1, with(user, 2), filters...)
	if n := model.Nodes(of(1, alone, x, x)); n != 1<<18 {
		t.Error(n)
	}
	if n := model.Size(filters); n != 5<<18 {
		t.Error(n)
	}
	if n := model.Size([]api.Filter{{Program: deep}, {Program: deep}, {}}); n != 2<<20+12 {
		t.Error(n)
	}
	if v, num, e := model.Verdict(x, api.Data{}); v != said(api.Refuse, 1).Verdict || num != 1<<18 || e != api.OK {
		t.Error(v, num, e)
	}
	if !model.Behind(filters, filters[1<<17:]) || model.Behind(filters[1:], filters) {
		t.Error("Behind")
	}
	if got, ok := model.Of(of(1, alone, x), 1); !ok || !alikeThreads(got, x) {
		t.Error(ok)
	}
}
