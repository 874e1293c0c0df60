package attach_test

import (
	"maps"
	"math"
	"slices"
	"testing"

	"wicketgate/api"
	"wicketgate/attach"
	"wicketgate/bitmap"
	"wicketgate/check"
	"wicketgate/insn"
	"wicketgate/vm"
)

// link is a filter as the tests go along with it: it knows the one behind it, and nobody counts who knows it.
type link struct {
	id       int
	behind   *link
	program  []api.Insn
	one, two uint64
}

// told is a cage as the tests go along with it: of each thread what it may and its newest filter. A filter is there as long as a thread comes to it.
type told struct {
	cred map[int]api.Cred
	head map[int]*link
}

// tell answers how the tests go along with a cage that may be.
func tell(c api.Cage) told {
	w := told{cred: map[int]api.Cred{}, head: map[int]*link{}}
	links := map[int]*link{}
	for _, n := range c.Pool.Nodes {
		links[n.Id] = &link{id: n.Id, program: slices.Clone(n.Program), one: n.One, two: n.Two}
	}
	for _, n := range c.Pool.Nodes {
		links[n.Id].behind = links[n.Parent]
	}
	for _, g := range c.Guards {
		w.cred[g.Tid], w.head[g.Tid] = g.Cred, links[g.Head]
	}
	return w
}

// copied answers w in maps of its own; filters never change.
func (w told) copied() told {
	return told{cred: maps.Clone(w.cred), head: maps.Clone(w.head)}
}

// list answers the filters of a thread, the newest one first.
func (w told) list(tid int) []*link {
	var l []*link
	for f := w.head[tid]; f != nil; f = f.behind {
		l = append(l, f)
	}
	return l
}

// there answers the filters to which somebody comes, by their ids.
func (w told) there() map[int]*link {
	met := map[int]*link{}
	for tid := range w.cred {
		for _, f := range w.list(tid) {
			met[f.id] = f
		}
	}
	return met
}

// size answers the size of a list.
func size(l []*link) int {
	n := 0
	for _, f := range l {
		n += 4 + len(f.program)
	}
	return n
}

// cage answers it as a value.
func (w told) cage() api.Cage {
	var c api.Cage
	met := w.there()
	for id := 1; id <= 24; id++ {
		f := met[id]
		if f == nil {
			continue
		}
		n := api.Node{Id: id, Program: slices.Clone(f.program), One: f.one, Two: f.two}
		for up := f; up != nil; up = up.behind {
			n.Size += 4 + len(up.program)
		}
		if f.behind != nil {
			n.Parent = f.behind.id
		}
		for _, other := range met {
			if other.behind == f {
				n.Count++
			}
		}
		for _, head := range w.head {
			if head == f {
				n.Count++
			}
		}
		c.Pool.Nodes = append(c.Pool.Nodes, n)
	}
	for tid := 1; tid <= 20; tid++ {
		if may, is := w.cred[tid]; is {
			c.Guards = append(c.Guards, api.Guard{Tid: tid, Cred: may, Head: idOf(w.head[tid])})
		}
	}
	return c
}

func idOf(f *link) int {
	if f == nil {
		return 0
	}
	return f.id
}

// lacks says whether one of these has no guard.
func (w told) lacks(tids ...int) bool {
	return slices.ContainsFunc(tids, func(tid int) bool {
		_, is := w.cred[tid]
		return !is
	})
}

func (w told) blocks(tid int, others []int) (int, api.Errno) {
	if w.lacks(slices.Concat([]int{tid}, others)...) {
		return 0, api.ErrNone
	}
	own := w.list(tid)
	least := 0
	for _, other := range others {
		f := w.head[other]
		fits := w.cred[other].Mode != 1 && (f == nil || slices.Contains(own, f))
		if other != tid && !fits && (least == 0 || other < least) {
			least = other
		}
	}
	return least, api.OK
}

func (w *told) attach(tid int, others []int, flags int, program []api.Insn) (api.Answer, api.Errno) {
	all := slices.Concat([]int{tid}, others)
	if uint(flags)%2 == 0 {
		all = all[:1]
	}
	if w.lacks(all...) {
		return api.Answer{}, api.ErrNone
	}
	if _, e := check.Check(program); e != api.OK || w.cred[tid].Mode == 1 {
		return api.Answer{Err: api.EINVAL}, api.OK
	}
	met := w.there()
	if size(w.list(tid))+4+len(program) > 256 || len(met) >= 24 {
		return api.Answer{Err: api.ENOMEM}, api.OK
	}
	if who, _ := w.blocks(tid, all); who != 0 {
		if uint(flags)/2%2 == 1 {
			return api.Answer{Err: api.ESRCH}, api.OK
		}
		return api.Answer{Value: who}, api.OK
	}
	f := &link{id: 1, behind: w.head[tid], program: slices.Clone(program)}
	for met[f.id] != nil {
		f.id++
	}
	f.one, f.two = bitsOf(program)
	for _, one := range all {
		x := w.cred[one]
		x.Mode, x.NoNew = 2, x.NoNew || w.cred[tid].NoNew
		w.cred[one], w.head[one] = x, f
	}
	return api.Answer{}, api.OK
}

func (w *told) inherit(from, to int) api.Errno {
	switch {
	case w.lacks(from):
		return api.ErrNone
	case to < 1 || to > 20:
		return api.ErrArg
	case !w.lacks(to):
		return api.ErrThere
	case len(w.cred) >= 8:
		return api.ErrFull
	}
	w.cred[to], w.head[to] = w.cred[from], w.head[from]
	return api.OK
}

func (w *told) leave(tid int) api.Errno {
	if w.lacks(tid) {
		return api.ErrNone
	}
	delete(w.cred, tid)
	delete(w.head, tid)
	return api.OK
}

func (w *told) rename(tid, to int) api.Errno {
	switch {
	case w.lacks(tid):
		return api.ErrNone
	case to < 1 || to > 20:
		return api.ErrArg
	case to == tid:
		return api.OK
	case !w.lacks(to):
		return api.ErrThere
	}
	w.cred[to], w.head[to] = w.cred[tid], w.head[tid]
	return w.leave(tid)
}

func (w *told) set(tid int, may api.Cred) api.Errno {
	if w.lacks(tid) {
		return api.ErrNone
	}
	mode := w.cred[tid].Mode
	if may.Uid < 0 || may.Uid > 9 || may.Mode != mode && (mode != 0 || may.Mode != 1) {
		return api.ErrArg
	}
	w.cred[tid] = may
	return api.OK
}

// actions are the high halves of words, the most restrictive first.
var actions = []uint32{0x8000, 0x0000, 0x0003, 0x0005, 0x7fc0, 0x7ff0, 0x7ffc, 0x7fff}

func (w told) verdict(tid int, d api.Data) (api.Verdict, bool, api.Errno) {
	if w.lacks(tid) {
		return api.Verdict{}, false, api.ErrNone
	}
	allow := api.Verdict{Action: 7}
	switch w.cred[tid].Mode {
	case 0:
		return allow, false, api.OK
	case 1:
		if d.Arch == 0xC000003E && (d.Nr <= 1 || d.Nr == 15 || d.Nr == 60) {
			return allow, false, api.OK
		}
		return api.Verdict{Action: 1}, false, api.OK
	}
	v, byBits := api.Verdict{Action: 8}, d.Nr < 64
	for _, f := range w.list(tid) {
		bits := map[uint32]uint64{0xC000003E: f.one, 0x40000003: f.two}[d.Arch]
		byBits = byBits && bits&(1<<d.Nr) != 0
		word, _ := vm.Run(f.program, d)
		if action := max(slices.Index(actions, word>>16), 0); action < v.Action {
			v = api.Verdict{Action: action, Data: uint16(word)}
		}
	}
	if byBits {
		return allow, true, api.OK
	}
	return v, false, api.OK
}

// known holds the bits of programs that were asked before, by their bytes: to work them out takes long.
var known = map[string][2]uint64{}

// bitsOf answers the bits of a program that may be.
func bitsOf(program []api.Insn) (uint64, uint64) {
	key := string(bytesOf(program))
	both, is := known[key]
	if !is {
		for at, arch := range []uint32{api.ArchOne, api.ArchTwo} {
			for nr := range uint32(64) {
				if ok, _ := bitmap.Allows(program, nr, arch); ok {
					both[at] += 1 << nr
				}
			}
		}
		known[key] = both
	}
	return both[0], both[1]
}

func bytesOf(program []api.Insn) []byte {
	var b []byte
	for _, x := range program {
		b = append(b, byte(x.Code), byte(x.Code>>8), x.Jt, x.Jf, byte(x.K), byte(x.K>>8), byte(x.K>>16), byte(x.K>>24))
	}
	return b
}

// mayBe says whether c may be, clause by clause as the chapter's words tell it.
func mayBe(c api.Cage) bool {
	if len(c.Guards) > 8 || len(c.Pool.Nodes) > 24 {
		return false
	}
	last := 0
	for _, g := range c.Guards {
		if g.Tid <= last || g.Tid > 20 || g.Cred.Uid < 0 || g.Cred.Uid > 9 || g.Cred.Mode < 0 || g.Cred.Mode > 2 {
			return false
		}
		last = g.Tid
		if (g.Head == 0) != (g.Cred.Mode < 2) || g.Head != 0 && !slices.ContainsFunc(c.Pool.Nodes, func(n api.Node) bool { return n.Id == g.Head }) {
			return false
		}
	}
	return poolMayBe(c.Pool) && !slices.ContainsFunc(c.Pool.Nodes, func(n api.Node) bool {
		who := 0
		for _, g := range c.Guards {
			if g.Head == n.Id {
				who++
			}
		}
		for _, m := range c.Pool.Nodes {
			if m.Parent == n.Id {
				who++
			}
		}
		return n.Count != who
	})
}

// poolMayBe says so of a pool (chapter 9), but for what its filters count.
func poolMayBe(p api.Pool) bool {
	at := map[int]api.Node{}
	last := 0
	for _, n := range p.Nodes {
		_, e := check.Check(n.Program)
		if n.Id <= last || n.Id > 24 || e != api.OK || n.Count < 1 {
			return false
		}
		last = n.Id
		at[n.Id] = n
	}
	for _, n := range p.Nodes {
		room, up := 0, n
		// In no more steps than there are filters its Parents lead to 0, or they go round.
		for range p.Nodes {
			room += len(up.Program) + 4
			if up.Parent == 0 {
				break
			}
			ahead, is := at[up.Parent]
			if !is {
				return false
			}
			up = ahead
		}
		if up.Parent != 0 || n.Size != room || room > 256 {
			return false
		}
	}
	return true
}

// alike says whether both are the same, field by field.
func alike(a, b api.Cage) bool {
	if len(a.Guards) != len(b.Guards) || len(a.Pool.Nodes) != len(b.Pool.Nodes) {
		return false
	}
	for i, g := range a.Guards {
		h := b.Guards[i]
		if g.Tid != h.Tid || g.Cred.Uid != h.Cred.Uid || g.Cred.Admin != h.Cred.Admin || g.Cred.NoNew != h.Cred.NoNew || g.Cred.Mode != h.Cred.Mode || g.Head != h.Head {
			return false
		}
	}
	for i, n := range a.Pool.Nodes {
		m := b.Pool.Nodes[i]
		if n.Id != m.Id || n.Parent != m.Parent || n.Size != m.Size || n.Count != m.Count || n.One != m.One || n.Two != m.Two || string(bytesOf(n.Program)) != string(bytesOf(m.Program)) {
			return false
		}
	}
	return true
}

// twin answers c in new memory.
func twin(c api.Cage) api.Cage {
	c.Guards, c.Pool.Nodes = slices.Clone(c.Guards), slices.Clone(c.Pool.Nodes)
	for i, n := range c.Pool.Nodes {
		c.Pool.Nodes[i].Program = slices.Clone(n.Program)
	}
	return c
}

// strange are numbers of no thread.
var strange = []int{math.MinInt, -1 << 32, -1, 0, 21, 22, 1<<32 + 1, math.MaxInt}

// upTo answers the numbers from 1 to n.
func upTo(n int) []int {
	var l []int
	for i := range n {
		l = append(l, i+1)
	}
	return l
}

// chance answers a function that answers numbers below n, mixed by the seed.
func chance(seed uint64) func(n int) int {
	return func(n int) int {
		seed = seed*6364136223846793005 + 1442695040888963407
		return int(seed >> 33 % uint64(n))
	}
}

// in answers the instruction of a name, with a K.
func in(name string, k uint32) api.Insn {
	code, ok := insn.Code(name)
	if !ok {
		panic(name)
	}
	return api.Insn{Code: code, K: k}
}

// The words that filters of these tests return.
const (
	allowWord = 0x7fff0000
	errnoWord = 0x00050000
)

// says answers the program that returns a word alone.
func says(word uint32) []api.Insn {
	return []api.Insn{in("ret.k", word)}
}

// only answers the program that returns the word, if the data's word at the offset is k, and allows all else.
func only(offset, k, word uint32) []api.Insn {
	jeq := in("jeq.k", k)
	jeq.Jf = 1
	return []api.Insn{in("ld.abs", offset), jeq, in("ret.k", word), in("ret.k", allowWord)}
}

// long answers a program of n instructions that returns the word.
func long(n int, word uint32) []api.Insn {
	return append(slices.Repeat([]api.Insn{in("ld.imm", 7)}, n-1), in("ret.k", word))
}

// datas answers data, of which filters of these tests say one thing or another.
func datas() []api.Data {
	return []api.Data{
		{}, {Nr: 5, Arch: api.ArchOne}, {Nr: 5, Arch: api.ArchTwo}, {Nr: 63, Arch: api.ArchOne, Args: [6]uint64{5}}, {Nr: 1, Arch: api.ArchOne, Ip: 9},
		{Nr: 64, Arch: api.ArchTwo, Args: [6]uint64{1<<32 + 5}}, {Nr: 1 << 31, Arch: 7}, {Nr: 60, Arch: api.ArchOne, Args: [6]uint64{5}}, {Nr: 15, Arch: api.ArchTwo},
	}
}

// act is a call that changes a cage, and what it does to the retelling.
type act struct {
	name   string
	does   func(c api.Cage) (api.Cage, api.Answer, api.Errno)
	retell func(w *told) (api.Answer, api.Errno)
}

func attaches(tid int, others []int, flags int, program []api.Insn) act {
	return act{
		name: "Attach",
		does: func(c api.Cage) (api.Cage, api.Answer, api.Errno) {
			return attach.Attach(c, tid, others, flags, program)
		},
		retell: func(w *told) (api.Answer, api.Errno) { return w.attach(tid, others, flags, program) },
	}
}

// plain answers an act without an answer.
func plain(name string, does func(c api.Cage) (api.Cage, api.Errno), retell func(w *told) api.Errno) act {
	return act{
		name: name,
		does: func(c api.Cage) (api.Cage, api.Answer, api.Errno) {
			q, e := does(c)
			return q, api.Answer{}, e
		},
		retell: func(w *told) (api.Answer, api.Errno) { return api.Answer{}, retell(w) },
	}
}

func inherits(from, to int) act {
	return plain("Inherit", func(c api.Cage) (api.Cage, api.Errno) { return attach.Inherit(c, from, to) }, func(w *told) api.Errno { return w.inherit(from, to) })
}

func leaves(tid int) act {
	return plain("Leave", func(c api.Cage) (api.Cage, api.Errno) { return attach.Leave(c, tid) }, func(w *told) api.Errno { return w.leave(tid) })
}

func renames(tid, to int) act {
	return plain("Rename", func(c api.Cage) (api.Cage, api.Errno) { return attach.Rename(c, tid, to) }, func(w *told) api.Errno { return w.rename(tid, to) })
}

func sets(tid int, may api.Cred) act {
	return plain("Set", func(c api.Cage) (api.Cage, api.Errno) { return attach.Set(c, tid, may) }, func(w *told) api.Errno { return w.set(tid, may) })
}

// goes holds one call of w's cage against w, and answers both as the call leaves them.
func goes(t *testing.T, w told, c api.Cage, x act) (told, api.Cage, api.Answer, api.Errno) {
	t.Helper()
	after := w.copied()
	want, wantError := x.retell(&after)
	q, a, e := x.does(c)
	if a != want || e != wantError {
		t.Fatalf("%s of %v: %v, %d, not %v, %d", x.name, c, a, e, want, wantError)
	}
	if e != api.OK {
		if !alike(q, api.Cage{}) {
			t.Fatalf("%s of %v: %v beside %d", x.name, c, q, e)
		}
		return w, c, a, e
	}
	if want := after.cage(); !alike(q, want) || !mayBe(q) || attach.Check(q) != api.OK {
		t.Fatalf("%s of %v: %v, not %v", x.name, c, q, want)
	}
	if a != (api.Answer{}) && !alike(q, c) {
		t.Fatalf("%s of %v: %v, though %v", x.name, c, q, a)
	}
	return after, q, a, e
}

// tells holds what is told of w's cage against w.
func tells(t *testing.T, w told, c api.Cage) {
	t.Helper()
	for _, tid := range slices.Concat(upTo(20), strange) {
		may, is := w.cred[tid]
		want := api.Guard{}
		if is {
			want = api.Guard{Tid: tid, Cred: may, Head: idOf(w.head[tid])}
		}
		if g, ok := attach.Of(c, tid); g != want || ok != is {
			t.Fatalf("Of(%d) of %v: %v, %t", tid, c, g, ok)
		}
		for _, d := range datas() {
			want, wantBits, wantError := w.verdict(tid, d)
			if v, byBits, e := attach.Verdict(c, tid, d); v != want || byBits != wantBits || e != wantError {
				t.Fatalf("Verdict(%d, %v) of %v: %v, %t, %d, not %v, %t, %d", tid, d, c, v, byBits, e, want, wantBits, wantError)
			}
		}
	}
}

// asks holds Blocks of w's cage against w.
func asks(t *testing.T, w told, c api.Cage, tid int, others []int) {
	t.Helper()
	want, wantError := w.blocks(tid, others)
	if who, e := attach.Blocks(c, tid, others); who != want || e != wantError {
		t.Fatalf("Blocks(%d, %v) of %v: %d, %d, not %d, %d", tid, others, c, who, e, want, wantError)
	}
}
