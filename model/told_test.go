package model_test

import (
	"maps"
	"math"
	"slices"
	"testing"

	"wicketgate/api"
	"wicketgate/check"
	"wicketgate/insn"
	"wicketgate/model"
	"wicketgate/task"
	"wicketgate/vm"
)

// told is a kernel as the tests go along with it: of each thread what it may and its newest filter, of each filter the one behind it, and its program.
type told struct {
	tasks   api.Tasks
	cred    map[int]api.Cred
	newest  map[int]int
	behind  map[int]int
	program map[int][]api.Insn
	next    int
}

// first answers the kernel to begin with.
func first() told {
	return told{
		tasks:   api.Tasks{Pids: api.Pids{Last: 1, Used: []int{1}}, Procs: []api.Proc{{Pid: 1, Threads: []int{1}}}},
		cred:    map[int]api.Cred{1: {Admin: true}},
		newest:  map[int]int{},
		behind:  map[int]int{},
		program: map[int][]api.Insn{},
		next:    1,
	}
}

// tell answers how the tests go along with a model that may be.
func tell(m api.Model) told {
	w := first()
	w.tasks, w.next = m.Tasks, m.Next
	clear(w.cred)
	for _, x := range m.Threads {
		w.cred[x.Tid] = x.Cred
		behind := 0
		for at := len(x.Filters) - 1; at >= 0; at-- {
			f := x.Filters[at]
			w.behind[f.Num], w.program[f.Num] = behind, f.Program
			behind = f.Num
		}
		w.newest[x.Tid] = behind
	}
	return w
}

// copied answers w in new memory.
func (w told) copied() told {
	w.cred, w.newest, w.behind, w.program = maps.Clone(w.cred), maps.Clone(w.newest), maps.Clone(w.behind), maps.Clone(w.program)
	return w
}

// model answers it as a value.
func (w told) model() api.Model {
	m := api.Model{Tasks: twin(api.Model{Tasks: w.tasks}).Tasks, Next: w.next}
	for tid := 1; tid <= 20; tid++ {
		if c, is := w.cred[tid]; is {
			x := api.Confined{Tid: tid, Cred: c}
			for _, num := range w.chain(tid) {
				x.Filters = append(x.Filters, api.Filter{Num: num, Program: slices.Clone(w.program[num])})
			}
			m.Threads = append(m.Threads, x)
		}
	}
	return m
}

// chain answers the Nums of a thread's filters, the newest one first.
func (w told) chain(tid int) []int {
	var l []int
	for num := w.newest[tid]; num != 0; num = w.behind[num] {
		l = append(l, num)
	}
	return l
}

// nums answers how many unlike Nums all threads have.
func (w told) nums() int {
	met := map[int]bool{}
	for tid := range w.cred {
		for _, num := range w.chain(tid) {
			met[num] = true
		}
	}
	return len(met)
}

// size answers the size of a thread's list.
func (w told) size(tid int) int {
	n := 0
	for _, num := range w.chain(tid) {
		n += 4 + len(w.program[num])
	}
	return n
}

// mates answers all threads of a thread's process, it, too.
func (w told) mates(tid int) (pid int, tids []int) {
	for _, p := range w.tasks.Procs {
		if slices.Contains(p.Threads, tid) {
			return p.Pid, slices.Clone(p.Threads)
		}
	}
	return 0, nil
}

// do does a call that may be, of a thread that there is, as the chapter's words tell it.
func (w *told) do(tid int, c api.Call) api.Answer {
	x := w.cred[tid]
	switch c.Kind {
	case 1:
		return w.attach(tid, c)
	case 2:
		if x.Mode == 2 {
			return api.Answer{Err: api.EINVAL}
		}
		x.Mode = 1
		w.cred[tid] = x
	case 3:
		x.NoNew = true
		w.cred[tid] = x
	case 4:
		if c.Uid < 0 || c.Uid > 9 {
			return api.Answer{Err: api.EINVAL}
		}
		if !x.Admin && c.Uid != x.Uid {
			return api.Answer{Err: api.EPERM}
		}
		w.cred[tid] = api.Cred{Uid: c.Uid, Admin: x.Admin && c.Uid == 0, NoNew: x.NoNew, Mode: x.Mode}
	case 5:
		v, _ := w.verdict(tid, c.Data)
		if v.Action <= 1 {
			w.end(tid, v.Action == 0)
		}
		return api.Answer{Verdict: v, Ended: v.Action <= 1}
	case 6, 7:
		return w.make(tid, c.Kind == 6)
	case 8:
		return w.exec(tid, c.File)
	case 9, 10:
		w.end(tid, c.Kind == 10)
		return api.Answer{Ended: true}
	case 11:
		tasks, pid, e := task.Reap(w.tasks, tid)
		if e == api.OK {
			w.tasks = tasks
		}
		return api.Answer{Err: e, Value: pid}
	}
	return api.Answer{}
}

func (w *told) attach(tid int, c api.Call) api.Answer {
	x := w.cred[tid]
	program := read(c.Bytes)
	_, e := check.Check(program)
	switch {
	case c.Flags < 0 || c.Flags > 3:
		return api.Answer{Err: api.EINVAL}
	case len(c.Bytes)%8 != 0 || len(c.Bytes) < 8 || len(c.Bytes) > 512:
		return api.Answer{Err: api.EINVAL}
	case !x.Admin && !x.NoNew:
		return api.Answer{Err: api.EACCES}
	case e != api.OK:
		return api.Answer{Err: api.EINVAL}
	case x.Mode == 1:
		return api.Answer{Err: api.EINVAL}
	case w.size(tid)+4+len(program) > 256, w.nums() >= 24, w.next >= 1<<30:
		return api.Answer{Err: api.ENOMEM}
	}
	who := []int{tid}
	if c.Flags%2 == 1 {
		_, who = w.mates(tid)
		for _, mate := range who {
			head := w.newest[mate]
			if w.cred[mate].Mode != 1 && (head == 0 || slices.Contains(w.chain(tid), head)) {
				continue
			}
			if c.Flags == 3 {
				return api.Answer{Err: api.ESRCH}
			}
			return api.Answer{Value: mate}
		}
	}
	w.behind[w.next], w.program[w.next] = w.newest[tid], program
	for _, one := range who {
		y := w.cred[one]
		y.Mode, y.NoNew = 2, y.NoNew || x.NoNew
		w.cred[one], w.newest[one] = y, w.next
	}
	w.next++
	return api.Answer{}
}

func (w *told) make(tid int, process bool) api.Answer {
	do := task.Clone
	if process {
		do = task.Fork
	}
	tasks, id, e := do(w.tasks, tid)
	if e != api.OK {
		return api.Answer{Err: e}
	}
	w.tasks, w.cred[id], w.newest[id] = tasks, w.cred[tid], w.newest[tid]
	return api.Answer{Value: id}
}

func (w *told) exec(tid int, f api.File) api.Answer {
	if f.Owner < 0 || f.Owner > 9 {
		return api.Answer{Err: api.EINVAL}
	}
	x, head := w.cred[tid], w.newest[tid]
	if f.SetUid && !x.NoNew {
		x.Uid, x.Admin = f.Owner, f.Owner == 0
	}
	pid, mates := w.mates(tid)
	w.gone(mates)
	w.tasks, _ = task.Exec(w.tasks, tid)
	w.cred[pid], w.newest[pid] = x, head
	return api.Answer{Value: pid}
}

func (w *told) end(tid int, process bool) {
	pid, mates := w.mates(tid)
	if process {
		w.gone(mates)
		w.tasks, _ = task.Kill(w.tasks, pid)
		return
	}
	w.gone([]int{tid})
	w.tasks, _ = task.End(w.tasks, tid)
}

// gone lets these threads be no more among the threads.
func (w *told) gone(tids []int) {
	for _, tid := range tids {
		delete(w.cred, tid)
		delete(w.newest, tid)
	}
}

// actions are the high halves of words, the most restrictive first.
var actions = []uint32{0x8000, 0x0000, 0x0003, 0x0005, 0x7fc0, 0x7ff0, 0x7ffc, 0x7fff}

// verdict answers a thread's verdict, and the Num of the filter that it is of.
func (w told) verdict(tid int, d api.Data) (api.Verdict, int) {
	if w.cred[tid].Mode == 1 {
		free := d.Arch == 0xC000003E && (d.Nr <= 1 || d.Nr == 15 || d.Nr == 60)
		if free {
			return api.Verdict{Action: 7}, 0
		}
		return api.Verdict{Action: 1}, 0
	}
	v, num := api.Verdict{Action: 8}, 0
	for _, one := range w.chain(tid) {
		word, _ := vm.Run(w.program[one], d)
		if action := max(slices.Index(actions, word>>16), 0); action < v.Action {
			v, num = api.Verdict{Action: action, Data: uint16(word)}, one
		}
	}
	if num == 0 {
		v.Action = 7
	}
	return v, num
}

// read answers the instructions whose bytes b has, as far as they go.
func read(b []byte) []api.Insn {
	var l []api.Insn
	for ; len(b) >= 8; b = b[8:] {
		l = append(l, api.Insn{
			Code: uint16(b[0]) + uint16(b[1])*256,
			Jt:   b[2],
			Jf:   b[3],
			K:    uint32(b[4]) + uint32(b[5])*256 + uint32(b[6])*65536 + uint32(b[7])*16777216,
		})
	}
	return l
}

// goes holds one call of w's model against w, and answers both as the call leaves them.
func goes(t *testing.T, w told, m api.Model, tid int, c api.Call) (told, api.Model, api.Answer) {
	t.Helper()
	after := w.copied()
	want := after.do(tid, c)
	then, a, e := model.Do(m, tid, c)
	if a != want || e != api.OK || !alike(then, after.model()) {
		t.Fatalf("%d: %v of %v: %v, %v, %d, not %v, %v", tid, c, m, then, a, e, after.model(), want)
	}
	if want.Err != api.OK && !alike(then, m) {
		t.Fatalf("%d: %v of %v: %v, though %v", tid, c, m, then, a)
	}
	if model.Check(then) != api.OK || !mayBe(then) {
		t.Fatalf("%d: %v of %v: %v may not be", tid, c, m, then)
	}
	return after, then, a
}

// tells holds what is told of w's model against w.
func tells(t *testing.T, w told, m api.Model, all []api.Data) {
	t.Helper()
	for _, tid := range slices.Concat(upTo(20), strange) {
		x, ok := model.Of(m, tid)
		c, is := w.cred[tid]
		if ok != is || !is && !alikeThreads(x, api.Confined{}) || is && (x.Tid != tid || x.Cred != c || !slices.Equal(nums(x.Filters), w.chain(tid))) {
			t.Fatalf("Of(%d) of %v: %v, %t", tid, m, x, ok)
		}
		if !is {
			if got, a, e := model.Do(m, tid, api.Call{Kind: 3}); !alike(got, api.Model{}) || a != (api.Answer{}) || e != api.ESRCH {
				t.Fatalf("Do(%d) of %v: %v, %v, %d", tid, m, got, a, e)
			}
			continue
		}
		if n := model.Size(x.Filters); n != w.size(tid) {
			t.Fatalf("Size of %v: %d", x, n)
		}
		for _, d := range all {
			v, num, e := model.Verdict(x, d)
			if want, of := w.verdict(tid, d); v != want || num != of || e != api.OK {
				t.Fatalf("Verdict of %v, %v: %v, %d, %d, not %v, %d", x, d, v, num, e, want, of)
			}
		}
		for other := range w.cred {
			y, _ := model.Of(m, other)
			want := w.newest[other] == 0 || slices.Contains(w.chain(tid), w.newest[other])
			if is := model.Behind(x.Filters, y.Filters); is != want {
				t.Fatalf("Behind of %v and %v: %t", x, y, is)
			}
		}
	}
	if n := model.Nodes(m); n != w.nums() {
		t.Fatalf("Nodes of %v: %d", m, n)
	}
}

// checked holds Check of m against the chapter's words; of what may not be, Do, too. It answers whether m may be.
func checked(t *testing.T, m api.Model) bool {
	t.Helper()
	before := twin(m)
	want := mayBe(m)
	if e := model.Check(m); e != api.OK && e != api.ErrModel || (e == api.OK) != want {
		t.Fatalf("Check of %v: %d", m, e)
	}
	for _, tid := range []int{-1, 0, 1, 2, 20, 21} {
		for _, c := range []api.Call{{Kind: 3}, {}, {Kind: 12}, {Kind: 3, Uid: 1}} {
			if want {
				break
			}
			// ErrModel goes ahead of all other errors.
			if got, a, e := model.Do(m, tid, c); !alike(got, api.Model{}) || a != (api.Answer{}) || e != api.ErrModel {
				t.Fatalf("Do(%d, %v) of %v: %v, %v, %d", tid, c, m, got, a, e)
			}
		}
	}
	if !alike(m, before) {
		t.Fatalf("%v has become %v", before, m)
	}
	return want
}

// mayBe says whether m may be, clause by clause as the chapter's words tell it.
func mayBe(m api.Model) bool {
	if task.Check(m.Tasks) != api.OK || m.Next < 1 || m.Next > 1<<30 {
		return false
	}
	live := map[int]bool{}
	for _, p := range m.Tasks.Procs {
		for _, tid := range p.Threads {
			live[tid] = true
		}
	}
	if len(live) != len(m.Threads) {
		return false
	}
	met := map[int]bool{}
	for at, x := range m.Threads {
		if !live[x.Tid] || at > 0 && m.Threads[at-1].Tid >= x.Tid || !mayConfine(x) {
			return false
		}
		size := 0
		for i, f := range x.Filters {
			if f.Num < 1 || f.Num >= m.Next || i > 0 && x.Filters[i-1].Num <= f.Num {
				return false
			}
			met[f.Num] = true
			size += len(f.Program) + 4
		}
		if size > 256 {
			return false
		}
	}
	return len(met) <= 24 && oneTail(m)
}

// mayConfine says whether a thread's Cred, Mode and programs may be.
func mayConfine(x api.Confined) bool {
	if x.Cred.Uid < 0 || x.Cred.Uid > 9 || x.Cred.Mode < 0 || x.Cred.Mode > 2 || (x.Cred.Mode == 2) != (len(x.Filters) > 0) {
		return false
	}
	for _, f := range x.Filters {
		if _, e := check.Check(f.Program); e != api.OK {
			return false
		}
	}
	return true
}

// oneTail says whether from each Num on, wherever it stands, all is the same.
func oneTail(m api.Model) bool {
	for _, x := range m.Threads {
		for _, y := range m.Threads {
			for i, f := range x.Filters {
				for j, g := range y.Filters {
					if f.Num == g.Num && !alikeLists(x.Filters[i:], y.Filters[j:]) {
						return false
					}
				}
			}
		}
	}
	return true
}

// mayCall says whether c may be, Kind by Kind.
func mayCall(c api.Call) bool {
	flags, uid, bytes, file, data := c.Flags == 0, c.Uid == 0, len(c.Bytes) == 0, c.File == api.File{}, c.Data == api.Data{}
	switch c.Kind {
	case 1:
		return uid && file && data
	case 4:
		return flags && bytes && file && data
	case 5:
		return flags && uid && bytes && file
	case 8:
		return flags && uid && bytes && data
	case 2, 3, 6, 7, 9, 10, 11:
		return flags && uid && bytes && file && data
	}
	return false
}

// alike says whether both are the same.
func alike(a, b api.Model) bool {
	s, t := a.Tasks, b.Tasks
	if a.Next != b.Next || s.Pids.Last != t.Pids.Last || !slices.Equal(s.Pids.Used, t.Pids.Used) || len(s.Procs) != len(t.Procs) || len(a.Threads) != len(b.Threads) {
		return false
	}
	for at, p := range s.Procs {
		q := t.Procs[at]
		if p.Pid != q.Pid || p.Parent != q.Parent || !slices.Equal(p.Threads, q.Threads) {
			return false
		}
	}
	for at, x := range a.Threads {
		if !alikeThreads(x, b.Threads[at]) {
			return false
		}
	}
	return true
}

func alikeThreads(x, y api.Confined) bool {
	return x.Tid == y.Tid && x.Cred == y.Cred && alikeLists(x.Filters, y.Filters)
}

func alikeLists(k, l []api.Filter) bool {
	if len(k) != len(l) {
		return false
	}
	for at, f := range k {
		if f.Num != l[at].Num || !slices.Equal(f.Program, l[at].Program) {
			return false
		}
	}
	return true
}

// twin answers m in new memory.
func twin(m api.Model) api.Model {
	x := api.Model{Next: m.Next}
	x.Tasks.Pids = api.Pids{Last: m.Tasks.Pids.Last, Used: append([]int(nil), m.Tasks.Pids.Used...)}
	for _, p := range m.Tasks.Procs {
		p.Threads = append([]int(nil), p.Threads...)
		x.Tasks.Procs = append(x.Tasks.Procs, p)
	}
	for _, one := range m.Threads {
		one.Filters = twinList(one.Filters)
		x.Threads = append(x.Threads, one)
	}
	return x
}

func twinList(l []api.Filter) []api.Filter {
	var k []api.Filter
	for _, f := range l {
		k = append(k, api.Filter{Num: f.Num, Program: append([]api.Insn(nil), f.Program...)})
	}
	return k
}

// nums answers the Nums of a list.
func nums(l []api.Filter) []int {
	var n []int
	for _, f := range l {
		n = append(n, f.Num)
	}
	return n
}

// says answers the program that returns a word alone.
func says(word uint32) []api.Insn {
	return []api.Insn{{Code: 0x06, K: word}}
}

// only answers the program that returns the word of the number nr, and allows others.
func only(nr, word uint32) []api.Insn {
	return []api.Insn{{Code: 0x20}, {Code: 0x15, K: nr, Jf: 1}, {Code: 0x06, K: word}, {Code: 0x06, K: allow}}
}

// long answers a program of n instructions that returns the word.
func long(n int, word uint32) []api.Insn {
	return append(slices.Repeat([]api.Insn{{K: 7}}, n-1), says(word)...)
}

// bytes answers the bytes of a program.
func bytes(program []api.Insn) []byte {
	var b []byte
	for _, x := range program {
		b = append(b, insn.Encode(x)...)
	}
	return b
}

// attach answers the call that attaches a program.
func attach(flags int, program []api.Insn) api.Call {
	return api.Call{Kind: api.CallAttach, Flags: flags, Bytes: bytes(program)}
}

// sys answers the call of a number of ArchOne.
func sys(nr uint32) api.Call {
	return api.Call{Kind: api.CallSys, Data: api.Data{Nr: nr, Arch: api.ArchOne}}
}

// The words that filters of these tests return.
const (
	allow       = 0x7fff0000
	errno       = 0x00050000
	killThread  = 0x00000000
	killProcess = 0x80000000
)

// strange are numbers that are no ids.
var strange = []int{0, -1, 21, -2, -20, 22, 32, 33, 64, 65, 256, 257, math.MinInt, -1 << 32, 1 << 32, 1<<32 + 1, math.MaxInt}

// upTo answers the numbers from 1 to n.
func upTo(n int) []int {
	var l []int
	for i := range n {
		l = append(l, i+1)
	}
	return l
}

// chance answers a function that answers numbers below n, mixed by the seed.
func chance(seed uint64) func(n int) int {
	return func(n int) int {
		seed = seed*6364136223846793005 + 1442695040888963407
		return int(seed >> 33 % uint64(n))
	}
}
