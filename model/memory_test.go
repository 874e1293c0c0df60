package model_test

import (
	"slices"
	"testing"

	"wicketgate/api"
	"wicketgate/model"
)

// room is the lists of a model, each to its very end.
type room struct {
	used     []int
	procs    []api.Proc
	mates    [][]int
	threads  []api.Confined
	filters  [][]api.Filter
	programs [][]api.Insn
}

// roomy answers m in lists with room behind their ends, and all of that room.
func roomy(m api.Model) (api.Model, room) {
	var r room
	wide := func(l []int) []int { return slices.Concat(l, []int{-7, -8, -9}) }
	r.used = wide(m.Tasks.Pids.Used)
	for _, p := range m.Tasks.Procs {
		l := wide(p.Threads)
		r.mates = append(r.mates, l)
		p.Threads = l[:len(p.Threads)]
		r.procs = append(r.procs, p)
	}
	r.procs = append(r.procs, proc(-4, -4), proc(-5, -5))
	for _, x := range m.Threads {
		var l []api.Filter
		for _, f := range x.Filters {
			p := slices.Concat(f.Program, []api.Insn{{Code: 9}, {Code: 8}})
			r.programs = append(r.programs, p)
			l = append(l, api.Filter{Num: f.Num, Program: p[:len(f.Program)]})
		}
		l = append(l, filter(-3, 3), filter(-4, 4))
		r.filters = append(r.filters, l)
		r.threads = append(r.threads, thread(x.Tid, x.Cred, l[:len(x.Filters)]...))
	}
	r.threads = append(r.threads, thread(-6, user), thread(-7, user))
	x := of(m.Next, api.Tasks{Pids: api.Pids{Last: m.Tasks.Pids.Last, Used: r.used[:len(m.Tasks.Pids.Used)]}, Procs: r.procs[:len(m.Tasks.Procs)]}, r.threads[:len(m.Threads)]...)
	return x, r
}

// whole answers the lists as a model, in new memory.
func (r room) whole() api.Model {
	m := of(0, api.Tasks{Pids: api.Pids{Used: r.used}, Procs: slices.Clone(r.procs)}, slices.Clone(r.threads)...)
	for _, l := range r.mates {
		m.Tasks.Procs = append(m.Tasks.Procs, api.Proc{Threads: l})
	}
	for _, l := range r.filters {
		m.Threads = append(m.Threads, api.Confined{Filters: l})
	}
	for _, p := range r.programs {
		m.Threads = append(m.Threads, api.Confined{Filters: []api.Filter{{Program: p}}})
	}
	return twin(m)
}

// spoil writes into all lists of x, and into the room behind their ends.
func spoil(x api.Confined) {
	for _, f := range x.Filters {
		clear(f.Program[:cap(f.Program)])
	}
	clear(x.Filters[:cap(x.Filters)])
}

// spoilAll does so with m.
func spoilAll(m api.Model) {
	for _, x := range m.Threads {
		spoil(x)
	}
	for _, p := range m.Tasks.Procs {
		clear(p.Threads[:cap(p.Threads)])
	}
	clear(m.Threads[:cap(m.Threads)])
	clear(m.Tasks.Procs[:cap(m.Tasks.Procs)])
	clear(m.Tasks.Pids.Used[:cap(m.Tasks.Pids.Used)])
}

func TestWhatIsHandedInStays(t *testing.T) { // P14.1 to P14.4, R3
	next := chance(15)
	for range 150 {
		w, whole := some(t, next, 60)
		m, r := roomy(whole)
		before := r.whole()
		tells(t, w, m, datas())
		for range 20 {
			tid, c := someCall(next, w)
			if tid == 0 {
				break
			}
			row := slices.Concat(c.Bytes, []byte{1, 2, 3})
			kept := slices.Clone(row)
			if c.Kind == api.CallAttach {
				c.Bytes = row[:len(c.Bytes)]
			}
			_, then, _ := goes(t, w, m, tid, c)
			if !alike(r.whole(), before) || !slices.Equal(row, kept) {
				t.Fatalf("%d: %v of %v: what was handed in has changed", tid, c, whole)
			}
			// The bytes are not kept.
			want := twin(then)
			clear(row)
			if !alike(then, want) {
				t.Fatalf("%d: %v of %v: the answer has changed: %v", tid, c, whole, then)
			}
			c.Bytes = kept[:len(c.Bytes)]
			again, _, _ := model.Do(m, tid, c)
			unlike(t, again)
			// The answer might share memory with what was handed in: it does not.
			spoilAll(again)
			if !alike(r.whole(), before) || !alike(then, want) {
				t.Fatalf("%d: %v of %v: the answer is not new memory", tid, c, whole)
			}
			// What goes on from the answer leaves it as it is, and what was handed in, too.
			on := tell(then)
			for range 5 {
				if tid, c := someCall(next, on); tid != 0 {
					goes(t, on, then, tid, c)
				}
			}
			if !alike(then, want) || !alike(r.whole(), before) {
				t.Fatalf("%d: %v of %v: the answer has changed: %v", tid, c, whole, then)
			}
		}
		if !alike(m, whole) || !model.Same(m, whole) || !model.Same(whole, m) || !checked(t, m) {
			t.Fatalf("%v: the room behind an end is asked", whole)
		}
	}
}

// unlike holds it of an answer that no two lists of it share memory. The answer is spoilt behind it.
func unlike(t *testing.T, m api.Model) {
	t.Helper()
	want := twin(m)
	for at, x := range m.Threads {
		spoil(x)
		for to := at + 1; to < len(m.Threads); to++ {
			if !alikeThreads(m.Threads[to], want.Threads[to]) {
				t.Fatalf("%v: the lists of %d and %d share memory", want, x.Tid, m.Threads[to].Tid)
			}
		}
	}
	for at, p := range m.Tasks.Procs {
		clear(p.Threads[:cap(p.Threads)])
		for to := at + 1; to < len(m.Tasks.Procs); to++ {
			if !slices.Equal(m.Tasks.Procs[to].Threads, want.Tasks.Procs[to].Threads) {
				t.Fatalf("%v: the threads of two processes share memory", want)
			}
		}
	}
	clear(m.Tasks.Procs[:cap(m.Tasks.Procs)])
	if !slices.Equal(m.Tasks.Pids.Used, want.Tasks.Pids.Used) {
		t.Fatalf("%v: the ids share memory", want)
	}
}

func TestOfIsNewMemory(t *testing.T) { // P14.4, R3
	next := chance(16)
	for range 100 {
		_, whole := some(t, next, 60)
		m, r := roomy(whole)
		before := r.whole()
		for _, x := range whole.Threads {
			one, _ := model.Of(m, x.Tid)
			two, _ := model.Of(m, x.Tid)
			spoil(two)
			if !alike(r.whole(), before) || !alikeThreads(one, x) {
				t.Fatalf("Of(%d) of %v is not new memory", x.Tid, whole)
			}
		}
	}
}
