package attach_test

import (
	"math"
	"slices"
	"testing"

	"wicketgate/api"
	"wicketgate/attach"
	"wicketgate/chain"
	"wicketgate/check"
	"wicketgate/cred"
	"wicketgate/insn"
)

var refuse = says(errnoWord + 1)

// plays does all of these, one behind the other, each held against the retelling; all of them have to be OK, with no Err.
func plays(t *testing.T, c api.Cage, acts ...act) api.Cage {
	t.Helper()
	w := tell(c)
	for at, x := range acts {
		var a api.Answer
		var e api.Errno
		w, c, a, e = goes(t, w, c, x)
		if a != (api.Answer{}) || e != api.OK {
			t.Fatalf("%d, %s of %v: %v, %d", at, x.name, c, a, e)
		}
	}
	return c
}

// begun answers a cage to begin with, with guards of all the others, which come of the first one.
func begun(t *testing.T, first int, others ...int) api.Cage {
	t.Helper()
	c, e := attach.Begin(first)
	if e != api.OK {
		t.Fatal(first, e)
	}
	for _, to := range others {
		c = plays(t, c, inherits(first, to))
	}
	return c
}

func TestExamples(t *testing.T) { // the chapter's
	c := plays(t, begun(t, 1, 2), attaches(1, []int{2}, api.FlagSync, refuse))
	g, ok := attach.Of(c, 2)
	if n, _ := chain.Find(c.Pool, 1); !ok || g.Head != 1 || g.Cred.Mode != api.ModeFilter || n.Count != 2 {
		t.Error(g, ok, n)
	}
	c = plays(t, c, attaches(2, nil, 0, refuse))
	c, a, e := attach.Attach(c, 1, []int{2}, api.FlagSync, refuse)
	if g, _ := attach.Of(c, 2); a != (api.Answer{Value: 2}) || e != api.OK || g.Head != 2 {
		t.Error(c, a, e)
	}
	c, a, e = attach.Attach(c, 1, []int{2}, api.FlagSync|api.FlagEsrch, refuse)
	if a != (api.Answer{Err: api.ESRCH}) || e != api.OK {
		t.Error(c, a, e)
	}
	c, e = attach.Leave(c, 2)
	if _, there := chain.Find(c.Pool, 2); e != api.OK || there || len(c.Pool.Nodes) != 1 {
		t.Error(c, e)
	}
	for _, q := range []struct {
		flags int
		b     []byte
		may   api.Cred
		want  api.Errno
	}{{4, bytesOf(refuse), cred.First(), api.EINVAL}, {0, nil, cred.First(), api.EINVAL}, {0, bytesOf(refuse), api.Cred{Uid: 5}, api.EACCES}} {
		if p, e := attach.Prepare(q.flags, q.b, q.may); len(p) != 0 || e != q.want {
			t.Errorf("%+v: %v, %d", q, p, e)
		}
	}
}

func TestBegin(t *testing.T) { // P15.1
	for _, tid := range slices.Concat(upTo(20), strange) {
		c, e := attach.Begin(tid)
		if tid < 1 || tid > 20 {
			if !alike(c, api.Cage{}) || e != api.ErrArg {
				t.Errorf("Begin(%d): %v, %d", tid, c, e)
			}
			continue
		}
		want := api.Cage{Guards: []api.Guard{{Tid: tid, Cred: api.Cred{Admin: true}}}}
		if !alike(c, want) || e != api.OK || !checked(t, c) {
			t.Errorf("Begin(%d): %v, %d", tid, c, e)
		}
		tells(t, tell(want), c)
	}
}

// prepared answers what Prepare answers as the chapter's words tell it.
func prepared(flags int, b []byte, may api.Cred) ([]api.Insn, api.Errno) {
	if flags != 0 && flags != 1 && flags != 2 && flags != 3 {
		return nil, api.EINVAL
	}
	var l []api.Insn
	for at := 0; at+8 <= len(b); at += 8 {
		x, _ := insn.Decode(b[at:])
		l = append(l, x)
	}
	if len(l)*8 != len(b) || len(l) < 1 || len(l) > 64 {
		return nil, api.EINVAL
	}
	if may.Uid < 0 || may.Uid > 9 || may.Mode < 0 || may.Mode > 2 || !may.Admin && !may.NoNew {
		return nil, api.EACCES
	}
	if _, e := check.Check(l); e != api.OK {
		return nil, api.EINVAL
	}
	return l, api.OK
}

// rows answers bytes that are programs, are none, or are no rows.
func rows() [][]byte {
	l := [][]byte{nil, {}, {6}, bytesOf(refuse)[:7], append(bytesOf(refuse), 0), bytesOf(says(0))[:8:8], bytesOf(only(0, 5, errnoWord))}
	for _, n := range []int{1, 2, 63, 64, 65, 66, 128, 254, 255, 256, 300} {
		l = append(l, bytesOf(long(n, errnoWord)), append(bytesOf(long(n, 0)), 6), bytesOf(long(n, 0))[1:])
	}
	// Rows of instructions, none of which may be a program.
	for _, p := range [][]api.Insn{{{Code: 0x94}}, {in("ld.imm", 1)}, {in("ja", 0)}, {in("ld.abs", 2), in("ret.a", 0)}, append(long(63, 0), in("ja", 0)), {{Code: 0xffff, Jt: 255, Jf: 255, K: math.MaxUint32}}} {
		l = append(l, bytesOf(p))
	}
	return l
}

// creds answers credentials that may be, and some that may not be.
func creds() []api.Cred {
	var l []api.Cred
	for _, uid := range []int{math.MinInt, -1, 0, 1, 9, 10, 1 << 32, math.MaxInt} {
		for mode := -1; mode <= 3; mode++ {
			for bits := range 4 {
				l = append(l, api.Cred{Uid: uid, Admin: bits&1 != 0, NoNew: bits&2 != 0, Mode: mode})
			}
		}
	}
	return append(l, api.Cred{Admin: true, Mode: 1 << 32}, api.Cred{NoNew: true, Mode: math.MinInt})
}

func TestPrepare(t *testing.T) { // P15.2
	met := map[api.Errno]int{}
	for _, flags := range []int{math.MinInt, -4, -1, 0, 1, 2, 3, 4, 5, 7, 8, 1 << 32, 1<<32 + 1, math.MaxInt} {
		for _, b := range rows() {
			for _, may := range creds() {
				want, wantError := prepared(flags, b, may)
				p, e := attach.Prepare(flags, b, may)
				if !slices.Equal(p, want) || e != wantError {
					t.Fatalf("Prepare(%d, %v, %v): %v, %d, not %v, %d", flags, b, may, p, e, want, wantError)
				}
				met[e]++
			}
		}
	}
	if met[api.OK] < 500 || met[api.EACCES] < 1000 || met[api.EINVAL] < 1000 || len(met) != 3 {
		t.Error(met)
	}
}

func TestPrepareOfTheFirstError(t *testing.T) { // P15.2, R2
	nobody := api.Cred{Uid: 5}
	// A row that is no program is told only to who may: EACCES goes ahead of it, and Flags and the row ahead of that.
	for _, q := range []struct {
		flags int
		b     []byte
		may   api.Cred
		want  api.Errno
	}{
		{4, bytesOf(refuse), nobody, api.EINVAL},
		{0, bytesOf(refuse)[:7], nobody, api.EINVAL},
		{0, bytesOf(long(65, 0)), nobody, api.EINVAL},
		{0, bytesOf(long(256, 0)), nobody, api.EINVAL},
		{0, bytesOf(long(64, 0)), nobody, api.EACCES},
		{0, bytesOf([]api.Insn{in("ld.imm", 1)}), nobody, api.EACCES},
		{0, bytesOf([]api.Insn{in("ld.imm", 1)}), api.Cred{Uid: 5, NoNew: true}, api.EINVAL},
		{0, bytesOf(refuse), api.Cred{Uid: 10, Admin: true}, api.EACCES},
		{3, bytesOf(refuse), api.Cred{Uid: 9, Admin: true, Mode: api.ModeStrict}, api.OK},
		{2, bytesOf(long(64, 7)), api.Cred{Uid: 9, NoNew: true, Mode: api.ModeFilter}, api.OK},
	} {
		if p, e := attach.Prepare(q.flags, q.b, q.may); e != q.want || (e == api.OK) != (len(p) > 0) {
			t.Errorf("%+v: %v, %d", q, p, e)
		}
	}
}

func TestBlocksWrittenOut(t *testing.T) { // P15.3
	// 7 has the filters 2 1, 3 has 1, 5 has 3 1, 9 has none, 11 is strict, 13 has 4.
	c := begun(t, 7, 9, 11, 13)
	c = plays(t, c, attaches(7, nil, 0, refuse), inherits(7, 3), inherits(7, 5), attaches(7, nil, 0, refuse), attaches(5, nil, 0, refuse), attaches(13, nil, 0, refuse), sets(11, api.Cred{Admin: true, Mode: api.ModeStrict}))
	for _, q := range []struct {
		tid    int
		others []int
		want   int
		e      api.Errno
	}{
		{7, nil, 0, api.OK}, {7, []int{7}, 0, api.OK}, {7, []int{3, 9}, 0, api.OK}, {7, []int{9, 7, 3, 9}, 0, api.OK},
		{7, []int{5}, 5, api.OK}, {7, []int{13, 11, 5, 3}, 5, api.OK}, {7, []int{13, 11, 13}, 11, api.OK}, {7, []int{13, 7, 3}, 13, api.OK},
		{3, []int{7, 5}, 5, api.OK}, {3, []int{9}, 0, api.OK}, {5, []int{3}, 0, api.OK}, {5, []int{3, 7}, 7, api.OK},
		{9, []int{3, 5, 7}, 3, api.OK}, {9, []int{9}, 0, api.OK}, {9, []int{11}, 11, api.OK}, {13, []int{3}, 3, api.OK},
		// Who is strict itself is in nobody's way of its own.
		{11, []int{9}, 0, api.OK}, {11, []int{11, 3}, 3, api.OK}, {11, nil, 0, api.OK},
		{1, nil, 0, api.ErrNone}, {7, []int{5, 4}, 0, api.ErrNone}, {7, []int{4, 5}, 0, api.ErrNone}, {0, []int{0}, 0, api.ErrNone}, {7, []int{0}, 0, api.ErrNone}, {7, []int{-7}, 0, api.ErrNone}, {4, []int{5}, 0, api.ErrNone},
	} {
		if who, e := attach.Blocks(c, q.tid, q.others); who != q.want || e != q.e {
			t.Errorf("Blocks(%d, %v): %d, %d, not %d, %d", q.tid, q.others, who, e, q.want, q.e)
		}
		asks(t, tell(c), c, q.tid, q.others)
	}
}

func TestBlocksOfManyOthers(t *testing.T) { // P15.3
	c := plays(t, begun(t, 1, 2, 3), attaches(3, nil, 0, refuse))
	others := slices.Repeat([]int{2, 1}, 100000)
	if who, e := attach.Blocks(c, 1, others); who != 0 || e != api.OK {
		t.Error(who, e)
	}
	if who, e := attach.Blocks(c, 1, append(others, 3)); who != 3 || e != api.OK {
		t.Error(who, e)
	}
	if who, e := attach.Blocks(c, 1, append(others, 3, 4)); who != 0 || e != api.ErrNone {
		t.Error(who, e)
	}
	w := tell(c)
	goes(t, w, c, attaches(1, others, api.FlagSync, refuse))
	goes(t, w, c, attaches(1, append(others, 3), api.FlagSync, refuse))
	goes(t, w, c, attaches(1, append(others, 4), api.FlagSync, refuse))
}

// flags are numbers with this and that bit.
var flags = []int{0, 1, 2, 3, 4, 5, 6, 7, -1, -2, -3, -4, 1 << 40, 1<<40 + 1, 1<<40 + 2, math.MaxInt, math.MinInt, math.MinInt + 1}

func TestAttachOfAllFlags(t *testing.T) { // P15.4
	c := plays(t, begun(t, 1, 2, 3), attaches(3, nil, 0, refuse))
	w := tell(c)
	for _, f := range flags {
		for _, others := range [][]int{nil, {2}, {3}, {2, 3}, {3, 2}, {1, 2}, {1}, {2, 2}, {4}, {3, 4}, {0}, {2, -1}} {
			for _, tid := range []int{1, 2, 3, 4} {
				for _, p := range [][]api.Insn{refuse, nil} {
					goes(t, w, c, attaches(tid, others, f, p))
				}
			}
		}
		// Without FlagSync nobody asks for the others.
		_, a, e := attach.Attach(c, 1, []int{3, 4}, f, refuse)
		if sync := f&1 != 0; sync != (e == api.ErrNone) || a != (api.Answer{}) {
			t.Errorf("%d: %v, %d", f, a, e)
		}
		_, a, e = attach.Attach(c, 1, []int{3}, f, refuse)
		want := map[int]api.Answer{1: {Value: 3}, 3: {Err: api.ESRCH}}[f&3]
		if a != want || e != api.OK {
			t.Errorf("%d: %v, %d", f, a, e)
		}
	}
}

func TestAttachWrittenOut(t *testing.T) { // P15.4
	// 1 has the filter 1, 2 has it too, 3 none, 4 the filter 2 of its own; 2 may what a user may, and 1 has NoNew.
	c := plays(t, begun(t, 1, 2, 3, 4), attaches(4, nil, 0, says(4)), attaches(1, []int{2}, 1, refuse), sets(2, api.Cred{Uid: 5, Mode: 2}), sets(1, api.Cred{NoNew: true, Mode: 2}))
	c, a, e := attach.Attach(c, 1, []int{3, 2}, api.FlagSync, says(errnoWord+3))
	want := api.Cage{
		Pool: api.Pool{Nodes: []api.Node{
			{Id: 1, Program: says(4), Size: 5, Count: 1},
			{Id: 2, Program: refuse, Size: 5, Count: 1},
			{Id: 3, Parent: 2, Program: says(errnoWord + 3), Size: 10, Count: 3},
		}},
		Guards: []api.Guard{
			{Tid: 1, Cred: api.Cred{NoNew: true, Mode: 2}, Head: 3},
			{Tid: 2, Cred: api.Cred{Uid: 5, NoNew: true, Mode: 2}, Head: 3},
			{Tid: 3, Cred: api.Cred{Admin: true, NoNew: true, Mode: 2}, Head: 3},
			{Tid: 4, Cred: api.Cred{Admin: true, Mode: 2}, Head: 1},
		},
	}
	if !alike(c, want) || a != (api.Answer{}) || e != api.OK {
		t.Errorf("%+v, %v, %d", c, a, e)
	}
	// Who has NoNew keeps it, though the thread has none.
	c, a, e = attach.Attach(plays(t, want, sets(1, api.Cred{Mode: 2})), 1, []int{1, 2, 3}, 3, long(64, allowWord))
	want.Pool.Nodes[2].Count = 1
	want.Pool.Nodes = append(want.Pool.Nodes, api.Node{Id: 4, Parent: 3, Program: long(64, allowWord), Size: 78, Count: 3, One: math.MaxUint64, Two: math.MaxUint64})
	want.Guards[0] = api.Guard{Tid: 1, Cred: api.Cred{Mode: 2}, Head: 4}
	want.Guards[1].Head, want.Guards[2].Head = 4, 4
	if !alike(c, want) || a != (api.Answer{}) || e != api.OK {
		t.Errorf("%+v, %v, %d", c, a, e)
	}
}

// full answers a cage in which nothing has room: 1 has a chain of that many instructions in all, 2 a filter of its own, 3 is strict, 4 has none; and in all there are that many filters.
func full(t *testing.T, instructions []int, nodes int) api.Cage {
	t.Helper()
	c := plays(t, begun(t, 1, 2, 3, 4), sets(3, api.Cred{Admin: true, Mode: 1}))
	for _, n := range instructions {
		c = plays(t, c, attaches(1, nil, 0, long(n, errnoWord)))
	}
	for len(c.Pool.Nodes) < nodes {
		c = plays(t, c, attaches(2, nil, 0, says(errnoWord)))
	}
	return c
}

func TestAttachWithoutRoom(t *testing.T) { // P15.4
	fine, einval, enomem := api.Answer{}, api.Answer{Err: api.EINVAL}, api.Answer{Err: api.ENOMEM}
	for _, q := range []struct {
		instructions []int
		nodes        int
		tid          int
		others       []int
		flags        int
		program      []api.Insn
		want         api.Answer
	}{
		// A chain of 192 + 12 has room for 48 instructions and 4.
		{[]int{64, 64, 64}, 4, 1, nil, 0, long(48, 0), fine},
		{[]int{64, 64, 64}, 4, 1, nil, 0, long(49, 0), enomem},
		{[]int{64, 64, 64}, 4, 1, []int{4}, 1, long(48, 0), fine},
		{[]int{64, 64, 64, 43}, 5, 1, nil, 0, says(0), fine},
		{[]int{64, 64, 64, 44}, 5, 1, nil, 0, says(0), enomem},
		{[]int{64, 64, 64, 48}, 5, 1, nil, 0, says(0), enomem},
		{[]int{64, 64, 64, 48}, 5, 4, nil, 0, says(0), fine},
		{[]int{1}, 23, 1, nil, 0, says(0), fine},
		{[]int{1}, 24, 1, nil, 0, says(0), enomem},
		{[]int{1}, 24, 4, nil, 0, says(0), enomem},
		// No program and ModeStrict are told ahead of no room, and no room ahead of who is in the way.
		{[]int{1}, 24, 1, nil, 0, nil, einval},
		{[]int{1}, 24, 1, nil, 0, long(65, 0), einval},
		{[]int{64, 64, 64, 48}, 5, 1, nil, 0, []api.Insn{in("ld.imm", 0)}, einval},
		{[]int{1}, 24, 3, nil, 0, says(0), einval},
		{[]int{1}, 3, 3, []int{1}, 1, says(0), einval},
		{[]int{1}, 3, 3, nil, 0, nil, einval},
		{[]int{1}, 3, 1, []int{2}, 3, nil, einval},
		{[]int{1}, 24, 1, []int{2}, 1, says(0), enomem},
		{[]int{1}, 24, 1, []int{2}, 3, says(0), enomem},
		{[]int{64, 64, 64, 48}, 5, 1, []int{2}, 3, says(0), enomem},
		{[]int{1}, 23, 1, []int{2, 3}, 1, says(0), api.Answer{Value: 2}},
		{[]int{1}, 23, 1, []int{2, 3}, 3, says(0), api.Answer{Err: api.ESRCH}},
		{[]int{1}, 23, 1, []int{4, 3}, 1, says(0), api.Answer{Value: 3}},
		{[]int{1}, 23, 1, []int{2, 3}, 0, says(0), fine},
		{[]int{1}, 23, 1, []int{2, 3}, 2, says(0), fine},
		{[]int{1}, 3, 4, []int{1}, 1, says(0), api.Answer{Value: 1}},
	} {
		c := full(t, q.instructions, q.nodes)
		_, after, a, e := goes(t, tell(c), c, attaches(q.tid, q.others, q.flags, q.program))
		if a != q.want || e != api.OK || len(c.Pool.Nodes) != q.nodes {
			t.Errorf("%+v: %v, %d", q, a, e)
		}
		if same := alike(after, c); same != (q.want != fine) {
			t.Errorf("%+v: %v has become %v", q, c, after)
		}
	}
}

func TestAttachOfAllPrograms(t *testing.T) { // P15.4
	c := begun(t, 1, 2)
	// It asks for no right: that is Prepare's to say.
	c = plays(t, c, sets(1, api.Cred{Uid: 5}))
	for _, b := range rows() {
		p, _ := insn.DecodeAll(b)
		for _, flags := range []int{0, 1} {
			_, _, a, e := goes(t, tell(c), c, attaches(1, []int{2}, flags, p))
			_, wrong := check.Check(p)
			if e != api.OK || (a.Err == api.EINVAL) != (wrong != api.OK) || wrong == api.OK && a != (api.Answer{}) {
				t.Errorf("%v: %v, %d", p, a, e)
			}
		}
	}
}

func TestAttachOfTheLeastId(t *testing.T) { // P15.4
	// Ids of filters that are gone are given again, and may be less than their Parents'.
	c := plays(t, begun(t, 1, 2), attaches(1, nil, 0, says(1)), attaches(2, nil, 0, says(2)), attaches(2, nil, 0, says(3)), leaves(1), attaches(2, nil, 0, says(4)))
	want := api.Cage{
		Pool: api.Pool{Nodes: []api.Node{
			{Id: 1, Parent: 3, Program: says(4), Size: 15, Count: 1},
			{Id: 2, Program: says(2), Size: 5, Count: 1},
			{Id: 3, Parent: 2, Program: says(3), Size: 10, Count: 1},
		}},
		Guards: []api.Guard{{Tid: 2, Cred: api.Cred{Admin: true, Mode: 2}, Head: 1}},
	}
	if !alike(c, want) {
		t.Errorf("%+v", c)
	}
	if c = plays(t, c, leaves(2)); !alike(c, api.Cage{}) {
		t.Errorf("%+v", c)
	}
}

func TestInherit(t *testing.T) { // P15.5
	for _, many := range []int{1, 4, 7, 8} {
		c := plays(t, begun(t, 2), attaches(2, nil, 0, refuse))
		for at := 1; at < many; at++ {
			c = plays(t, c, inherits(2, 2+at*2))
		}
		w := tell(c)
		for _, from := range slices.Concat(upTo(20), strange) {
			for _, to := range slices.Concat(upTo(20), strange) {
				_, q, _, e := goes(t, w, c, inherits(from, to))
				if g, ok := attach.Of(q, to); e == api.OK && (!ok || g != (api.Guard{Tid: to, Cred: api.Cred{Admin: true, Mode: 2}, Head: 1}) || len(q.Guards) != many+1) {
					t.Fatalf("Inherit(%d, %d) of %v: %v", from, to, c, q)
				}
			}
		}
		for _, q := range []struct {
			from, to int
			want     api.Errno
		}{{3, 21, api.ErrNone}, {3, 2, api.ErrNone}, {2, 21, api.ErrArg}, {2, 0, api.ErrArg}, {2, 2, api.ErrThere}, {2, 1, map[bool]api.Errno{true: api.ErrFull}[many == 8]}, {2, 20, map[bool]api.Errno{true: api.ErrFull}[many == 8]}} {
			if p, e := attach.Inherit(c, q.from, q.to); e != q.want || e != api.OK && !alike(p, api.Cage{}) {
				t.Errorf("%d guards, Inherit(%d, %d): %d, not %d", many, q.from, q.to, e, q.want)
			}
		}
	}
}

func TestLeave(t *testing.T) { // P15.5
	// 1 has 3 2 1, 2 has 2 1, 3 has 1, 4 has none: whose chain nobody else has goes whole.
	c := plays(t, begun(t, 4, 1), attaches(1, nil, 0, says(1)), inherits(1, 3), attaches(1, nil, 0, says(2)), inherits(1, 2), attaches(1, nil, 0, says(3)))
	for _, q := range []struct {
		gone, left []int
	}{
		{[]int{1}, []int{1, 2}}, {[]int{2}, []int{1, 2, 3}}, {[]int{3}, []int{1, 2, 3}}, {[]int{4}, []int{1, 2, 3}},
		{[]int{1, 2}, []int{1}}, {[]int{2, 1}, []int{1}}, {[]int{1, 3}, []int{1, 2}}, {[]int{3, 2}, []int{1, 2, 3}},
		{[]int{1, 2, 3}, nil}, {[]int{3, 2, 1}, nil}, {[]int{2, 3, 1, 4}, nil}, {[]int{4, 3, 1, 2}, nil},
	} {
		p := c
		for _, tid := range q.gone {
			p = plays(t, p, leaves(tid))
		}
		var left []int
		for _, n := range p.Pool.Nodes {
			left = append(left, n.Id)
		}
		if !slices.Equal(left, q.left) || len(p.Guards) != 4-len(q.gone) {
			t.Errorf("%v: %v", q, p)
		}
		for _, tid := range slices.Concat(q.gone, strange, []int{5}) {
			if r, e := attach.Leave(p, tid); !alike(r, api.Cage{}) || e != api.ErrNone {
				t.Errorf("Leave(%d) of %v: %v, %d", tid, p, r, e)
			}
		}
	}
}

func TestRename(t *testing.T) { // P15.5
	c := plays(t, begun(t, 5, 3, 10, 20), attaches(5, []int{10}, 1, refuse), attaches(10, nil, 0, refuse), sets(3, api.Cred{Uid: 3, Mode: 1}))
	w := tell(c)
	for _, tid := range slices.Concat(upTo(20), strange) {
		for _, to := range slices.Concat(upTo(20), strange) {
			_, q, _, e := goes(t, w, c, renames(tid, to))
			old, there := attach.Of(c, tid)
			_, taken := attach.Of(c, to)
			want := api.OK
			switch {
			case !there:
				want = api.ErrNone
			case to < 1 || to > 20:
				want = api.ErrArg
			case taken && to != tid:
				want = api.ErrThere
			}
			if e != want {
				t.Fatalf("Rename(%d, %d): %d", tid, to, e)
			}
			if g, ok := attach.Of(q, to); e == api.OK && (!ok || g.Cred != old.Cred || g.Head != old.Head || len(q.Guards) != 4 || tid != to && tell(q).lacks(tid) == false) {
				t.Fatalf("Rename(%d, %d): %v", tid, to, q)
			}
		}
	}
}

func TestSet(t *testing.T) { // P15.5
	c := plays(t, begun(t, 1, 2, 3), attaches(2, nil, 0, refuse), sets(3, api.Cred{Uid: 3, NoNew: true, Mode: 1}))
	w := tell(c)
	count := 0
	for tid := -1; tid <= 4; tid++ {
		for _, may := range creds() {
			_, q, _, e := goes(t, w, c, sets(tid, may))
			if g, _ := attach.Of(q, tid); e == api.OK && g.Cred != may {
				t.Fatalf("Set(%d, %v): %v", tid, may, q)
			}
			if e == api.OK {
				count++
			}
		}
	}
	// Three Uids, four of Admin and NoNew; two Modes of 1, one each of 2 and 3.
	if count != 3*4*(2+1+1) {
		t.Error(count)
	}
	for _, q := range []struct {
		tid, mode int
		want      api.Errno
	}{{1, 0, api.OK}, {1, 1, api.OK}, {1, 2, api.ErrArg}, {2, 0, api.ErrArg}, {2, 1, api.ErrArg}, {2, 2, api.OK}, {3, 0, api.ErrArg}, {3, 1, api.OK}, {3, 2, api.ErrArg}, {4, 7, api.ErrNone}, {1, 3, api.ErrArg}, {1, -1, api.ErrArg}} {
		if _, e := attach.Set(c, q.tid, api.Cred{Mode: q.mode}); e != q.want {
			t.Errorf("%+v: %d", q, e)
		}
	}
}

func TestVerdictWrittenOut(t *testing.T) { // P15.6
	// 1 is free, 2 strict, 3 has filters whose bits say it, 4 ones that look at what the bits do not know.
	c := plays(t, begun(t, 1, 2, 3, 4), sets(2, api.Cred{Mode: 1}),
		attaches(3, nil, 0, only(0, 5, errnoWord+1)), attaches(3, nil, 0, only(4, api.ArchTwo, 0x7ffc0002)),
		attaches(4, nil, 0, only(16, 5, errnoWord+3)), attaches(4, nil, 0, says(0x7fff0009)))
	for _, q := range []struct {
		tid    int
		d      api.Data
		want   api.Verdict
		byBits bool
	}{
		{1, api.Data{Nr: 5}, api.Verdict{Action: api.Allow}, false},
		{1, api.Data{Nr: 0, Arch: api.ArchOne}, api.Verdict{Action: api.Allow}, false},
		{2, api.Data{Nr: 1, Arch: api.ArchTwo}, api.Verdict{Action: api.KillThread}, false},
		{2, api.Data{Nr: 1, Arch: api.ArchOne, Ip: 7, Args: [6]uint64{7}}, api.Verdict{Action: api.Allow}, false},
		{3, api.Data{Nr: 4, Arch: api.ArchOne}, api.Verdict{Action: api.Allow}, true},
		{3, api.Data{Nr: 5, Arch: api.ArchOne}, api.Verdict{Action: api.Refuse, Data: 1}, false},
		{3, api.Data{Nr: 5, Arch: api.ArchTwo}, api.Verdict{Action: api.Refuse, Data: 1}, false},
		{3, api.Data{Nr: 4, Arch: api.ArchTwo}, api.Verdict{Action: api.Log, Data: 2}, false},
		{3, api.Data{Nr: 63, Arch: api.ArchOne}, api.Verdict{Action: api.Allow}, true},
		{3, api.Data{Nr: 64, Arch: api.ArchOne}, api.Verdict{Action: api.Allow}, false},
		{3, api.Data{Nr: 4, Arch: 7}, api.Verdict{Action: api.Allow}, false},
		{4, api.Data{Nr: 4, Arch: api.ArchOne}, api.Verdict{Action: api.Allow, Data: 9}, false},
		{4, api.Data{Nr: 4, Arch: api.ArchOne, Args: [6]uint64{5}}, api.Verdict{Action: api.Refuse, Data: 3}, false},
	} {
		if v, byBits, e := attach.Verdict(c, q.tid, q.d); v != q.want || byBits != q.byBits || e != api.OK {
			t.Errorf("%+v: %v, %t, %d", q, v, byBits, e)
		}
	}
	for _, tid := range slices.Concat(strange, []int{5}) {
		if v, byBits, e := attach.Verdict(c, tid, api.Data{}); v != (api.Verdict{}) || byBits || e != api.ErrNone {
			t.Errorf("Verdict(%d): %v, %t, %d", tid, v, byBits, e)
		}
	}
}

func TestVerdictOfTheStrict(t *testing.T) { // P15.6
	c := plays(t, begun(t, 1), sets(1, api.Cred{Mode: 1}))
	for _, arch := range []uint32{api.ArchOne, api.ArchTwo, 0, 1, api.ArchOne + 1, math.MaxUint32} {
		for nr := range uint32(400) {
			for _, nr := range []uint32{nr, nr << 8, nr << 24, math.MaxUint32 - nr} {
				free := arch == api.ArchOne && slices.Contains([]uint32{0, 1, 15, 60}, nr)
				want := map[bool]api.Verdict{true: {Action: 7}, false: {Action: 1}}[free]
				if v, byBits, e := attach.Verdict(c, 1, api.Data{Nr: nr, Arch: arch, Args: [6]uint64{uint64(nr)}}); v != want || byBits || e != api.OK {
					t.Fatalf("%d, %x: %v, %t, %d", nr, arch, v, byBits, e)
				}
			}
		}
	}
}

func TestVerdictOfBitsThatLie(t *testing.T) { // P15.6
	// Where the bits say it the chain is not asked.
	c := plays(t, begun(t, 1), attaches(1, nil, 0, says(0)), attaches(1, nil, 0, refuse))
	c.Pool.Nodes[0].One, c.Pool.Nodes[1].One = 1<<5|1<<6, 1<<5|1<<7
	for nr := range uint32(64) {
		for _, arch := range []uint32{api.ArchOne, api.ArchTwo} {
			v, byBits, e := attach.Verdict(c, 1, api.Data{Nr: nr, Arch: arch})
			want := map[bool]api.Verdict{true: {Action: 7}, false: {Action: 1}}[nr == 5 && arch == api.ArchOne]
			if v != want || byBits != (want.Action == 7) || e != api.OK {
				t.Errorf("%d, %x: %v, %t, %d", nr, arch, v, byBits, e)
			}
		}
	}
}
