package bitmap_test

import (
	"math"
	"slices"
	"testing"

	"wicketgate/api"
	"wicketgate/bitmap"
	"wicketgate/check"
	"wicketgate/data"
	"wicketgate/insn"
	"wicketgate/vm"
)

// some answers ordinary numbers, and those beside which something changes.
func some() []uint32 {
	return []uint32{0, 1, 2, 5, 7, 31, 32, 33, 63, 64, 1 << 16, 1<<31 - 1, 1 << 31, math.MaxUint32, api.ArchOne, api.ArchTwo, allowed}
}

// may answers the numbers K that the instruction of a name may have.
func may(name string) []uint32 {
	switch name {
	case "ld.abs":
		return []uint32{0, 0, 0, 4, 4, 8, 12, 16, 60}
	case "ld.mem", "ldx.mem", "st", "stx":
		return []uint32{0, 1, 15}
	case "lsh.k", "rsh.k":
		return []uint32{0, 1, 16, 31}
	case "div.k":
		return some()[1:]
	case "ret.k":
		return []uint32{allowed, allowed, allowed, 0, allowed + 1}
	case "ja":
		return []uint32{0}
	}
	return some()
}

// mixed answers a program of n instructions of all codes that may be, another one for each seed.
func mixed(n int, seed uint64) []api.Insn {
	next := chance(seed)
	var all []string
	for _, name := range insn.Codes() {
		all = append(all, name)
	}
	p := make([]api.Insn, n)
	for i := range p {
		room := n - 1 - i
		name := all[next(len(all))]
		if next(6) == 0 {
			name = "ld.abs"
		}
		if room == 0 || (name == "ret.k" || name == "ret.a") && next(4) > 0 {
			name = []string{"ret.a", "ret.k", "ret.k"}[next(3)]
		}
		k := may(name)
		p[i] = in(name, k[next(len(k))])
		switch form := insn.Form(p[i].Code); form {
		case api.FormJump:
			p[i].K = uint32(next(min(room, 3)))
		case api.FormTest, api.FormTestX:
			p[i].Jt, p[i].Jf = uint8(next(min(room, 4))), uint8(next(min(room, 4)))
		}
	}
	return p
}

// each hands mixed programs of all lengths to tell.
func each(t *testing.T, seeds uint64, tell func(p []api.Insn)) {
	t.Helper()
	for n := 1; n <= api.MaxProgram; n++ {
		for seed := range seeds {
			p := mixed(n, seed*1000+uint64(n))
			if at, e := check.Check(p); e != api.OK {
				t.Fatalf("%+v: %d, %d", p, at, e)
			}
			tell(p)
		}
	}
}

// same fails the test, if Flow tells otherwise than the chapter's words.
func same(t *testing.T, p []api.Insn, nr, arch uint32) {
	t.Helper()
	want, wantReturned := whole(p, nr, arch)
	ahead, returned, e := bitmap.Flow(p, nr, arch)
	if len(ahead) != len(p) || returned != wantReturned || e != api.OK {
		t.Fatalf("Flow of %+v, %#x, %#x: %d states, %+v, %d, not %+v", p, nr, arch, len(ahead), returned, e, wantReturned)
	}
	for i := range p {
		if ahead[i] != want[i] {
			t.Fatalf("Flow of %+v, %#x, %#x: at %d %+v, not %+v", p, nr, arch, i, ahead[i], want[i])
		}
	}
	allows, e := bitmap.Allows(p, nr, arch)
	if allows != (wantReturned == sure(allowed)) || e != api.OK {
		t.Fatalf("Allows of %+v, %#x, %#x: %t, %d", p, nr, arch, allows, e)
	}
}

// ways answers rows of instructions that leave A or X known or not.
func ways() [][]api.Insn {
	number, arch, other := in("ld.abs", 0), in("ld.abs", 4), in("ld.abs", 16)
	tax := in("tax", 0)
	return [][]api.Insn{
		{},
		{number},
		{other},
		{number, tax},
		{other, tax},
		{number, tax, arch},
		{number, tax, other},
		{other, tax, number},
		{other, tax, in("st", 3), arch},
		{in("ldx.imm", 3), in("ld.imm", 12)},
		{in("ldx.imm", 0), other},
		{in("ldx.imm", 1<<31+1), in("ld.imm", 1<<31)},
		{in("ld.imm", 9), in("st", 3), in("ldx.imm", 33), in("stx", 15), number},
	}
}

func TestFlowOfEachCode(t *testing.T) { // P7.2
	tail := []api.Insn{in("ret.a", 0), in("st", 1), in("txa", 0), in("ret.a", 0), in("ret.k", allowed)}
	for _, name := range insn.Codes() {
		tos := [][2]uint8{{1, 4}}
		if form := insn.Form(in(name, 0).Code); form == api.FormTest || form == api.FormTestX {
			tos = [][2]uint8{{0, 0}, {0, 1}, {1, 0}, {1, 1}, {1, 4}, {4, 1}}
		}
		ks := append(may(name), 0, 1, 2, 3, 4)
		slices.Sort(ks)
		for _, k := range slices.Compact(ks) {
			for _, to := range tos {
				x := test(name, k, to[0], to[1])
				for _, way := range ways() {
					p := slices.Concat(way, []api.Insn{x}, tail)
					if _, e := check.Check(p); e != api.OK {
						continue
					}
					for _, nr := range []uint32{0, 1, 3, 64, math.MaxUint32} {
						same(t, p, nr, api.ArchOne)
					}
				}
			}
		}
	}
}

func TestFlowOfEachOffset(t *testing.T) { // P7.2
	for offset := uint32(0); offset < 64; offset += 4 {
		for _, nr := range some() {
			want := map[uint32]api.Abs{0: sure(nr), 4: sure(nr + 1)}[offset]
			l, returned, e := bitmap.Flow([]api.Insn{in("ld.abs", offset), in("ret.a", 0)}, nr, nr+1)
			if len(l) != 2 || l[1].A != want || returned != want || e != api.OK {
				t.Errorf("at %d of %d: %+v, %v, %d", offset, nr, l, returned, e)
			}
		}
	}
}

func TestFlowOfMixedPrograms(t *testing.T) { // P7.2, P7.3
	met, sures := map[string]int{}, 0
	each(t, 40, func(p []api.Insn) {
		for _, at := range [][2]uint32{{0, 0}, {7, api.ArchOne}, {1 << 31, api.ArchTwo}, {math.MaxUint32, math.MaxUint32}} {
			same(t, p, at[0], at[1])
		}
		ahead, returned, _ := bitmap.Flow(p, 5, api.ArchOne)
		for i, s := range ahead {
			if s.Reached {
				name, _ := insn.Name(p[i].Code)
				met[name]++
			}
		}
		if returned.Known {
			sures++
		}
	})
	for _, name := range insn.Codes() {
		if met[name] < 100 {
			t.Errorf("%s was reached %d times only", name, met[name])
		}
	}
	if sures < 200 {
		t.Errorf("what is returned was known %d times only", sures)
	}
}

// letters answers instructions of which all small programs are made.
func letters() []api.Insn {
	return []api.Insn{
		in("ld.abs", 0), in("ld.abs", 8), in("tax", 0), in("txa", 0), in("ldx.imm", 3), in("div.x", 0), in("sub.x", 0), in("st", 0), in("ldx.mem", 0),
		in("ja", 0), in("ja", 1), test("jeq.k", 3, 0, 1), test("jeq.x", 0, 1, 0), test("jgt.k", 2, 1, 2), in("ret.a", 0), in("ret.k", allowed),
	}
}

func TestFlowOfAllSmallPrograms(t *testing.T) { // P7.2, P7.3
	count := 0
	var lay func(p []api.Insn)
	lay = func(p []api.Insn) {
		if _, e := check.Check(p); e == api.OK {
			count++
			same(t, p, 3, api.ArchOne)
			same(t, p, 0, api.ArchOne)
		}
		more := letters()
		switch len(p) {
		case 5:
			return
		case 4: // what has no room any more but for one that returns
			more = more[len(more)-2:]
		}
		for _, x := range more {
			lay(append(p, x))
		}
	}
	lay(nil)
	if count < 10000 {
		t.Error(count)
	}
}

func TestFlowWrittenOut(t *testing.T) { // P7.2
	noughts := api.State{Reached: true, A: sure(0), X: sure(0)}
	for i := range noughts.Mem {
		noughts.Mem[i] = sure(0)
	}
	with := func(change func(s *api.State)) api.State {
		s := noughts
		change(&s)
		return s
	}
	seven := with(func(s *api.State) { s.A = sure(7) })
	nothing := with(func(s *api.State) { s.A = api.Abs{} })
	for i, q := range []struct {
		p        []api.Insn
		want     []api.State
		returned api.Abs
	}{
		{[]api.Insn{in("ret.k", 3)}, []api.State{noughts}, sure(3)},
		{[]api.Insn{in("ret.a", 3)}, []api.State{noughts}, sure(0)},
		// Behind a return nothing is reached.
		{[]api.Insn{in("ret.k", 3), in("ret.k", 4)}, []api.State{noughts, {}}, sure(3)},
		{[]api.Insn{in("ja", 1), in("ret.k", 3), in("ret.k", 4)}, []api.State{noughts, {}, noughts}, sure(4)},
		// A test of what is known goes one way, of what is not both, whatever it asks.
		{[]api.Insn{in("ld.abs", 0), test("jeq.k", 7, 0, 1), in("ret.k", 3), in("ret.k", 4)}, []api.State{noughts, seven, seven, {}}, sure(3)},
		{[]api.Insn{in("ld.abs", 0), test("jgt.k", 7, 0, 1), in("ret.k", 3), in("ret.k", 4)}, []api.State{noughts, seven, {}, seven}, sure(4)},
		{[]api.Insn{in("ld.abs", 8), test("jge.k", 0, 0, 1), in("ret.k", 3), in("ret.k", 4)}, []api.State{noughts, nothing, nothing, nothing}, api.Abs{}},
		{[]api.Insn{in("ld.abs", 8), test("jset.k", 0, 0, 1), in("ret.k", 3), in("ret.k", 4)}, []api.State{noughts, nothing, nothing, nothing}, api.Abs{}},
		{[]api.Insn{in("ld.abs", 8), test("jeq.k", 9, 0, 1), in("ret.k", 3), in("ret.k", 3)}, []api.State{noughts, nothing, nothing, nothing}, sure(3)},
		// A test that holds does not say what A is.
		{[]api.Insn{in("ld.abs", 8), test("jeq.k", 9, 0, 1), in("ret.a", 0), in("ret.k", 9)}, []api.State{noughts, nothing, nothing, nothing}, api.Abs{}},
		// What two ways bring is known, where they bring it alike.
		{
			[]api.Insn{in("ld.abs", 8), test("jeq.k", 9, 0, 2), in("ld.imm", 7), in("ja", 1), in("ld.imm", 7), in("ret.a", 0)},
			[]api.State{noughts, nothing, nothing, seven, nothing, seven}, sure(7),
		},
		{
			[]api.Insn{in("ld.abs", 8), test("jeq.k", 9, 0, 2), in("ld.imm", 7), in("ja", 1), in("ld.imm", 0), in("ret.a", 0)},
			[]api.State{noughts, nothing, nothing, seven, nothing, nothing}, api.Abs{},
		},
		// What is not known makes nothing known, though it would not count.
		{[]api.Insn{in("ld.abs", 8), in("and.k", 0), in("ret.a", 0)}, []api.State{noughts, nothing, nothing}, api.Abs{}},
		{[]api.Insn{in("ld.abs", 8), in("mul.x", 0), in("ret.a", 0)}, []api.State{noughts, nothing, nothing}, api.Abs{}},
		{[]api.Insn{in("ld.abs", 8), in("neg", 0), in("ret.a", 0)}, []api.State{noughts, nothing, nothing}, api.Abs{}},
		// neg goes by A alone, though X is not known.
		{
			[]api.Insn{in("ld.abs", 8), in("tax", 0), in("ld.imm", 1), in("neg", 0), in("ret.a", 0)},
			[]api.State{
				noughts, nothing, with(func(s *api.State) { s.A, s.X = api.Abs{}, api.Abs{} }),
				with(func(s *api.State) { s.A, s.X = sure(1), api.Abs{} }), with(func(s *api.State) { s.A, s.X = sure(math.MaxUint32), api.Abs{} }),
			},
			sure(math.MaxUint32),
		},
		// A division by an X that is nought returns 0, whatever A is, and goes no further.
		{[]api.Insn{in("div.x", 0), in("ret.k", 3)}, []api.State{noughts, {}}, sure(0)},
		{[]api.Insn{in("ld.abs", 8), in("div.x", 0), in("ret.k", 3)}, []api.State{noughts, nothing, {}}, sure(0)},
		// Of one that is not nought it goes on alone.
		{
			[]api.Insn{in("ldx.imm", 2), in("ld.imm", 15), in("div.x", 0), in("ret.a", 0)},
			[]api.State{noughts, with(func(s *api.State) { s.X = sure(2) }), with(func(s *api.State) { s.A, s.X = sure(15), sure(2) }), with(func(s *api.State) { s.A, s.X = sure(7), sure(2) })},
			sure(7),
		},
		{
			[]api.Insn{in("ldx.imm", 2), in("ld.abs", 8), in("div.x", 0), in("ret.k", 3)},
			[]api.State{noughts, with(func(s *api.State) { s.X = sure(2) }), with(func(s *api.State) { s.A, s.X = api.Abs{}, sure(2) }), with(func(s *api.State) { s.A, s.X = api.Abs{}, sure(2) })},
			sure(3),
		},
		// Of one that is not known both may be.
		{
			[]api.Insn{in("ld.abs", 8), in("tax", 0), in("ld.imm", 0), in("div.x", 0), in("ret.k", 3)},
			[]api.State{
				noughts, nothing, with(func(s *api.State) { s.A, s.X = api.Abs{}, api.Abs{} }),
				with(func(s *api.State) { s.X = api.Abs{} }), with(func(s *api.State) { s.A, s.X = api.Abs{}, api.Abs{} }),
			},
			api.Abs{},
		},
		{
			[]api.Insn{in("ld.abs", 8), in("tax", 0), in("div.x", 0), in("ret.k", 0)},
			[]api.State{noughts, nothing, with(func(s *api.State) { s.A, s.X = api.Abs{}, api.Abs{} }), with(func(s *api.State) { s.A, s.X = api.Abs{}, api.Abs{} })},
			sure(0),
		},
		// A division by a K is never one by nought, though X is not known.
		{
			[]api.Insn{in("ld.abs", 8), in("tax", 0), in("ld.imm", 9), in("div.k", 2), in("ret.a", 0)},
			[]api.State{
				noughts, nothing, with(func(s *api.State) { s.A, s.X = api.Abs{}, api.Abs{} }),
				with(func(s *api.State) { s.A, s.X = sure(9), api.Abs{} }), with(func(s *api.State) { s.A, s.X = sure(4), api.Abs{} }),
			},
			sure(4),
		},
		// A word that is not known is not known in Mem, and out of it.
		{
			[]api.Insn{in("ld.abs", 8), in("st", 4), in("ld.imm", 7), in("ldx.mem", 4), in("ret.a", 0)},
			[]api.State{
				noughts, nothing, with(func(s *api.State) { s.A, s.Mem[4] = api.Abs{}, api.Abs{} }),
				with(func(s *api.State) { s.A, s.Mem[4] = sure(7), api.Abs{} }), with(func(s *api.State) { s.A, s.X, s.Mem[4] = sure(7), api.Abs{}, api.Abs{} }),
			},
			sure(7),
		},
		// What is returned is unknown for good, if one of the words is.
		{
			[]api.Insn{in("ld.abs", 8), test("jeq.k", 1, 0, 1), in("ret.a", 0), test("jeq.k", 2, 0, 1), in("ret.k", 3), in("ret.k", 3)},
			[]api.State{noughts, nothing, nothing, nothing, nothing, nothing}, api.Abs{},
		},
	} {
		l, returned, e := bitmap.Flow(q.p, 7, api.ArchOne)
		if !slices.Equal(l, q.want) || returned != q.returned || e != api.OK {
			t.Errorf("%d: %+v, %+v, %d, not %+v, %+v", i, l, returned, e, q.want, q.returned)
		}
	}
}

func TestExamples(t *testing.T) { // P7.3: the chapter's
	all, kill, allow := uint64(math.MaxUint64), in("ret.k", 0), in("ret.k", allowed)
	for i, q := range []struct {
		p    []api.Insn
		want uint64
	}{
		{[]api.Insn{allow}, all},
		{[]api.Insn{in("ret.k", allowed+1)}, 0},
		{[]api.Insn{in("ld.abs", 0), test("jeq.k", 5, 1, 0), kill, allow}, 1 << 5},
		{[]api.Insn{in("ld.abs", 16), test("jeq.k", 5, 0, 0), allow}, all},
		{[]api.Insn{in("ld.abs", 16), test("jeq.k", 5, 1, 0), kill, allow}, 0},
		{[]api.Insn{in("ldx.imm", 0), in("div.x", 0), allow}, 0},
	} {
		if bits, e := bitmap.Bits(q.p, api.ArchOne); bits != q.want || e != api.OK {
			t.Errorf("%d: %x, %d", i, bits, e)
		}
	}
}

func TestAllowsThatWordAlone(t *testing.T) { // P7.3
	for bit := range 33 {
		word := uint32(allowed)
		if bit < 32 {
			word ^= 1 << bit
		}
		for _, p := range [][]api.Insn{{in("ret.k", word)}, {in("ld.imm", word), in("ret.a", 0)}, {in("ld.abs", 0), in("ret.a", 0)}} {
			if ok, e := bitmap.Allows(p, word, api.ArchTwo); ok != (bit == 32) || e != api.OK {
				t.Errorf("%+v: %#x: %t, %d", p, word, ok, e)
			}
		}
	}
}

func TestBits(t *testing.T) { // P7.3
	for nr := range uint32(66) {
		p := []api.Insn{in("ld.abs", 0), test("jeq.k", nr, 0, 1), in("ret.k", allowed), in("ret.k", 0)}
		want := uint64(0)
		if nr < 64 {
			want = 1 << nr
		}
		if bits, e := bitmap.Bits(p, api.ArchOne); bits != want || e != api.OK {
			t.Errorf("%d: %x, %d", nr, bits, e)
		}
		p[2], p[3] = p[3], p[2]
		if bits, e := bitmap.Bits(p, api.ArchOne); bits != ^want || e != api.OK {
			t.Errorf("all but %d: %x, %d", nr, bits, e)
		}
	}
}

func TestBitsOfAnArchitecture(t *testing.T) { // P7.3
	p := []api.Insn{in("ld.abs", 4), test("jeq.k", api.ArchTwo, 0, 3), in("ld.abs", 0), test("jge.k", 60, 0, 1), in("ret.k", allowed), in("ret.k", 0)}
	for arch, want := range map[uint32]uint64{api.ArchTwo: 0xf << 60, api.ArchOne: 0, 0: 0, api.ArchTwo + 1: 0, math.MaxUint32: 0} {
		if bits, e := bitmap.Bits(p, arch); bits != want || e != api.OK {
			t.Errorf("%#x: %x, %d", arch, bits, e)
		}
	}
}

func TestBitsAreWhatIsAllowed(t *testing.T) { // P7.3
	some := 0
	each(t, 8, func(p []api.Insn) {
		bits, e := bitmap.Bits(p, api.ArchOne)
		if e != api.OK {
			t.Fatal(e)
		}
		if bits != 0 {
			some++
		}
		for nr := range uint32(64) {
			if ok, e := bitmap.Allows(p, nr, api.ArchOne); ok != (bits>>nr%2 == 1) || e != api.OK {
				t.Fatalf("%+v: %x, at %d %t, %d", p, bits, nr, ok, e)
			}
		}
	})
	if some < 20 {
		t.Error(some)
	}
}

func TestProgramsThatMayNotBe(t *testing.T) { // P7.2, P7.3, R2
	ret := in("ret.k", allowed)
	for _, q := range []struct {
		p    []api.Insn
		want api.Errno
	}{
		{nil, api.ErrSize}, {[]api.Insn{}, api.ErrSize}, {slices.Repeat([]api.Insn{ret}, 65), api.ErrSize}, {slices.Repeat([]api.Insn{ret}, 300), api.ErrSize},
		{[]api.Insn{{Code: 0x94, K: 2}, ret}, api.ErrCode}, {[]api.Insn{{Code: 0x106}}, api.ErrCode},
		{[]api.Insn{in("ld.abs", 64), ret}, api.ErrLoad}, {[]api.Insn{in("ld.abs", 3), ret}, api.ErrLoad},
		{[]api.Insn{in("div.k", 0), ret}, api.ErrZero}, {[]api.Insn{in("lsh.k", 32), ret}, api.ErrShift},
		{[]api.Insn{in("stx", 16), ret}, api.ErrMem}, {[]api.Insn{in("ja", 1), ret}, api.ErrJump}, {[]api.Insn{test("jeq.x", 0, 0, 1), ret}, api.ErrJump},
		{[]api.Insn{ret, in("ld.imm", 7)}, api.ErrLast}, {[]api.Insn{in("ja", math.MaxUint32), ret}, api.ErrJump},
		// What is wrong stands where nothing leads to.
		{[]api.Insn{ret, in("ld.mem", 99), ret}, api.ErrMem},
	} {
		if l, returned, e := bitmap.Flow(q.p, 1, api.ArchOne); len(l) != 0 || returned != (api.Abs{}) || e != q.want {
			t.Errorf("Flow of %+v: %v, %v, %d, not %d", q.p, l, returned, e, q.want)
		}
		if ok, e := bitmap.Allows(q.p, 1, api.ArchOne); ok || e != q.want {
			t.Errorf("Allows of %+v: %t, %d, not %d", q.p, ok, e, q.want)
		}
		if bits, e := bitmap.Bits(q.p, api.ArchOne); bits != 0 || e != q.want {
			t.Errorf("Bits of %+v: %x, %d, not %d", q.p, bits, e, q.want)
		}
	}
	longest := append(slices.Repeat([]api.Insn{in("add.k", 1)}, 63), in("ret.a", 0))
	if l, returned, e := bitmap.Flow(longest, 1, 2); len(l) != 64 || l[63].A != sure(63) || returned != sure(63) || e != api.OK {
		t.Errorf("the longest one: %v, %v, %d", l, returned, e)
	}
}

// datas answers data of a number and an architecture, with other things of several kinds.
func datas(nr, arch uint32) []api.Data {
	l := []api.Data{{Nr: nr, Arch: arch}}
	next := chance(uint64(nr) + 9)
	for range 6 {
		d := api.Data{Nr: nr, Arch: arch}
		for offset := uint32(8); offset < 64; offset += 4 {
			d, _ = data.With(d, offset, some()[next(len(some()))])
		}
		l = append(l, d)
	}
	return l
}

func TestWhateverElseThereIs(t *testing.T) { // P7.4
	allowing := 0
	each(t, 60, func(p []api.Insn) {
		for _, nr := range []uint32{0, 5, 63} {
			ahead, returned, _ := bitmap.Flow(p, nr, api.ArchOne)
			allows, _ := bitmap.Allows(p, nr, api.ArchOne)
			if allows {
				allowing++
			}
			for _, d := range datas(nr, api.ArchOne) {
				machines, _ := vm.Trace(p, d)
				for _, m := range machines {
					if !bitmap.Fits(m, ahead[m.Pc]) {
						t.Fatalf("%+v over %+v: %+v does not fit %+v", p, d, m, ahead[m.Pc])
					}
				}
				word, _ := vm.Run(p, d)
				if returned.Known && returned.Value != word || allows && word != allowed {
					t.Fatalf("%+v over %+v: %#x, %+v, %t", p, d, word, returned, allows)
				}
			}
		}
	})
	if allowing < 500 {
		t.Error(allowing)
	}
}

func TestWithoutLoadsAllIsKnown(t *testing.T) { // P7.2, P7.4: of a program that loads nothing else just the machines' states are reached
	each(t, 40, func(p []api.Insn) {
		for i, x := range p {
			if name, _ := insn.Name(x.Code); name == "ld.abs" {
				p[i].K %= 8
			}
		}
		ahead, returned, _ := bitmap.Flow(p, 7, 9)
		machines, _ := vm.Trace(p, api.Data{Nr: 7, Arch: 9})
		word, _ := vm.Run(p, api.Data{Nr: 7, Arch: 9})
		want := make([]api.State, len(p))
		for _, m := range machines {
			s := api.State{Reached: true, A: sure(m.A), X: sure(m.X)}
			for i, x := range m.Mem {
				s.Mem[i] = sure(x)
			}
			want[m.Pc] = s
		}
		if !slices.Equal(ahead, want) || returned != sure(word) {
			t.Fatalf("%+v: %+v, %+v, not %+v, %#x", p, ahead, returned, want, word)
		}
	})
}

func TestProgramsStayAsTheyAre(t *testing.T) { // R3
	for n := 1; n <= 64; n++ {
		room := append(mixed(n, uint64(n)), in("ret.k", 1), in("ret.k", 2))
		was := slices.Clone(room)
		p := room[:n]
		first, _, _ := bitmap.Flow(p, 7, api.ArchOne)
		second, _, _ := bitmap.Flow(p, 7, api.ArchOne)
		bitmap.Allows(p, 7, api.ArchOne)
		bitmap.Bits(p, api.ArchOne)
		if !slices.Equal(room, was) {
			t.Fatalf("%d: %+v", n, room)
		}
		if !slices.Equal(first, second) {
			t.Fatalf("%d: another answer", n)
		}
		first[0].A = sure(99)
		if second[0].A != sure(0) {
			t.Fatalf("%d: two answers share their memory", n)
		}
	}
}
