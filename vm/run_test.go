package vm_test

import (
	"math"
	"slices"
	"testing"

	"wicketgate/api"
	"wicketgate/check"
	"wicketgate/data"
	"wicketgate/insn"
	"wicketgate/vm"
)

// chance answers numbers below a bound, others for each seed.
func chance(seed uint64) func(below int) int {
	return func(below int) int {
		seed = seed*6364136223846793005 + 1442695040888963407
		return int(seed >> 33 % uint64(below))
	}
}

// mixed answers a program of n instructions of all codes that may be, another one for each seed.
func mixed(n int, seed uint64) []api.Insn {
	next := chance(seed)
	var names []string
	for _, name := range insn.Codes() {
		names = append(names, name)
	}
	p := make([]api.Insn, n)
	for i := range p {
		room := n - 1 - i
		name := names[next(len(names))]
		if room == 0 || (name == "ret.k" || name == "ret.a") && next(4) > 0 {
			name = []string{"ret.a", "ret.a", "ret.k"}[next(3)]
		}
		k := may(name)
		p[i] = in(name, k[next(len(k))])
		switch form := insn.Form(p[i].Code); form {
		case api.FormJump:
			p[i].K = uint32(next(room))
		case api.FormTest, api.FormTestX:
			p[i].Jt, p[i].Jf = uint8(next(min(room, 5))), uint8(next(min(room, 5)))
			p[i].K = some()[next(len(some()))]
		}
	}
	return p
}

// datas answers data of several kinds.
func datas() []api.Data {
	top := uint64(math.MaxUint64)
	return []api.Data{
		{}, counted(), {Nr: 7, Arch: api.ArchOne}, {Nr: 1 << 31, Arch: api.ArchTwo, Ip: 1 << 63},
		{Nr: math.MaxUint32, Arch: math.MaxUint32, Ip: top, Args: [6]uint64{top, top, top, top, top, top}},
	}
}

// each hands mixed programs of all lengths, with each of some data, to tell.
func each(t *testing.T, seeds uint64, tell func(p []api.Insn, d api.Data)) {
	t.Helper()
	for n := 1; n <= api.MaxProgram; n++ {
		for seed := range seeds {
			p := mixed(n, seed*1000+uint64(n))
			if at, e := check.Check(p); e != api.OK {
				t.Fatalf("%+v: %d, %d", p, at, e)
			}
			for _, d := range datas() {
				tell(p, d)
			}
		}
	}
}

func TestRunAndTraceOfMixedPrograms(t *testing.T) { // P5.3
	met := map[string]int{}
	each(t, 60, func(p []api.Insn, d api.Data) {
		wantAhead, want := all(p, d)
		if x, e := vm.Run(p, d); x != want || e != api.OK {
			t.Fatalf("Run of %+v over %+v: %#x, %d, not %#x", p, d, x, e, want)
		}
		if ahead, e := vm.Trace(p, d); !slices.Equal(ahead, wantAhead) || e != api.OK {
			t.Fatalf("Trace of %+v over %+v: %+v, %d, not %+v", p, d, ahead, e, wantAhead)
		}
		for _, m := range wantAhead {
			name, _ := insn.Name(p[m.Pc].Code)
			met[name]++
		}
	})
	for _, name := range insn.Codes() {
		if met[name] < 100 {
			t.Errorf("%s was met %d times only", name, met[name])
		}
	}
}

func TestTraceIsStepByStep(t *testing.T) { // P5.2, P5.3
	each(t, 20, func(p []api.Insn, d api.Data) {
		ahead, _ := vm.Trace(p, d)
		returned, _ := vm.Run(p, d)
		if len(ahead) == 0 || ahead[0] != (api.Vm{}) {
			t.Fatalf("Trace of %+v over %+v: %+v", p, d, ahead)
		}
		for i, m := range ahead {
			then, x, over, e := vm.Step(p, d, m)
			last := i == len(ahead)-1
			if e != api.OK || over != last || !last && (then != ahead[i+1] || x != 0) || last && (then != m || x != returned) {
				t.Fatalf("Step of %+v over %+v, from %+v: %+v, %d, %t, %d", p, d, m, then, x, over, e)
			}
		}
	})
}

func TestTraceWrittenOut(t *testing.T) { // P5.3
	for _, q := range []struct {
		p    []api.Insn
		want []api.Vm
		x    uint32
	}{
		{[]api.Insn{in("ret.k", 3)}, []api.Vm{{}}, 3},
		{[]api.Insn{in("ret.a", 3), in("ret.k", 4)}, []api.Vm{{}}, 0},
		{[]api.Insn{in("ja", 1), in("ret.k", 1), in("ret.k", 2)}, []api.Vm{{}, {Pc: 2}}, 2},
		{
			[]api.Insn{in("ld.abs", 20), in("st", 3), in("tax", 0), in("ld.len", 0), jump("jgt.x", 0, 0, 1), in("ret.k", 1), in("ldx.mem", 2), in("ret.a", 9)},
			[]api.Vm{
				{}, {Pc: 1, A: 0x105}, {Pc: 2, A: 0x105, Mem: [16]uint32{3: 0x105}}, {Pc: 3, A: 0x105, X: 0x105, Mem: [16]uint32{3: 0x105}},
				{Pc: 4, A: 64, X: 0x105, Mem: [16]uint32{3: 0x105}}, {Pc: 6, A: 64, X: 0x105, Mem: [16]uint32{3: 0x105}}, {Pc: 7, A: 64, Mem: [16]uint32{3: 0x105}},
			}, 64,
		},
		// A division by nought returns, whatever there is in A, and is the last step.
		{[]api.Insn{in("ld.imm", 5), in("div.x", 1), in("ret.a", 0)}, []api.Vm{{}, {Pc: 1, A: 5}}, 0},
		{[]api.Insn{in("ldx.imm", 2), in("ld.imm", 5), in("div.x", 0), in("ret.a", 0)}, []api.Vm{{}, {Pc: 1, X: 2}, {Pc: 2, A: 5, X: 2}, {Pc: 3, A: 2, X: 2}}, 2},
	} {
		if l, e := vm.Trace(q.p, counted()); !slices.Equal(l, q.want) || e != api.OK {
			t.Errorf("Trace of %+v: %+v, %d, not %+v", q.p, l, e, q.want)
		}
		if x, e := vm.Run(q.p, counted()); x != q.x || e != api.OK {
			t.Errorf("Run of %+v: %d, %d, not %d", q.p, x, e, q.x)
		}
	}
}

func TestLongestProgram(t *testing.T) { // P5.3
	p := append(slices.Repeat([]api.Insn{in("add.k", 1)}, 63), in("ret.a", 0))
	if x, e := vm.Run(p, api.Data{}); x != 63 || e != api.OK {
		t.Error(x, e)
	}
	l, e := vm.Trace(p, api.Data{})
	if len(l) != 64 || e != api.OK {
		t.Fatal(len(l), e)
	}
	for i, m := range l {
		if m != (api.Vm{Pc: i, A: uint32(i)}) {
			t.Error(i, m)
		}
	}
}

func TestWithinItsLength(t *testing.T) { // P5.4
	each(t, 30, func(p []api.Insn, d api.Data) {
		ahead, _ := vm.Trace(p, d)
		most, _ := check.Most(p)
		if len(ahead) > most || most > len(p) {
			t.Fatalf("%+v: %d steps, %d at most", p, len(ahead), most)
		}
		for i := 1; i < len(ahead); i++ {
			if ahead[i].Pc <= ahead[i-1].Pc {
				t.Fatalf("%+v: behind %d comes %d", p, ahead[i-1].Pc, ahead[i].Pc)
			}
		}
	})
}

func TestWhatItHangsOn(t *testing.T) { // P5.4
	next := chance(5)
	each(t, 20, func(p []api.Insn, d api.Data) {
		ahead, _ := vm.Trace(p, d)
		want, _ := vm.Run(p, d)
		var seen [16]bool
		for _, m := range ahead {
			if name, _ := insn.Name(p[m.Pc].Code); name == "ld.abs" {
				seen[p[m.Pc].K/4] = true
			}
		}
		other := d
		for i, is := range seen {
			if !is {
				other, _ = data.With(other, uint32(4*i), uint32(next(math.MaxInt32)))
			}
		}
		again, _ := vm.Trace(p, other)
		if x, e := vm.Run(p, other); x != want || e != api.OK || !slices.Equal(again, ahead) {
			t.Fatalf("%+v: %#x of %+v, %#x of %+v", p, want, d, x, other)
		}
	})
	// And on each word that it loads it may hang.
	for offset := uint32(0); offset < 64; offset += 4 {
		d, _ := data.With(counted(), offset, 0xC0FFEE)
		if x, e := vm.Run([]api.Insn{in("ld.abs", offset), in("ret.a", 0)}, d); x != 0xC0FFEE || e != api.OK {
			t.Errorf("at %d: %#x, %d", offset, x, e)
		}
	}
}

func TestWhatIsHandedInStays(t *testing.T) { // R3, R5
	each(t, 5, func(p []api.Insn, d api.Data) {
		memory := append(slices.Clone(p), in("ret.k", 1), in("ja", 77))
		before := slices.Clone(memory)
		handed := memory[:len(p)]
		one, _ := vm.Run(handed, d)
		l, _ := vm.Trace(handed, d)
		vm.Step(handed, d, machine(len(p)/2, 3, 0))
		if !slices.Equal(memory, before) {
			t.Fatalf("%+v has become %+v", before, memory)
		}
		other, _ := vm.Run(p, d)
		again, _ := vm.Trace(p, d)
		if one != other || !slices.Equal(l, again) {
			t.Fatalf("%+v: %d, %d", p, one, other)
		}
	})
}

func TestAnswersAreNewMemory(t *testing.T) { // R3
	p := []api.Insn{in("ld.abs", 4), in("tax", 0), in("ret.a", 0)}
	one, _ := vm.Trace(p, counted())
	other, _ := vm.Trace(p, counted())
	want := slices.Clone(other)
	one = one[:cap(one)]
	for i := range one {
		one[i] = machine(9, 9, 9)
	}
	third, _ := vm.Trace(p, counted())
	if !slices.Equal(other, want) || !slices.Equal(third, want) {
		t.Errorf("two answers of Trace share memory: %+v", other)
	}
}

func TestExamples(t *testing.T) { // the chapter's
	ask := []api.Insn{in("ld.abs", 0), jump("jeq.k", 7, 0, 1), in("ret.k", 1), in("ret.k", 2)}
	for _, q := range []struct {
		p    []api.Insn
		d    api.Data
		want uint32
	}{
		{ask, api.Data{Nr: 7}, 1},
		{ask, api.Data{Nr: 8}, 2},
		{[]api.Insn{in("ld.imm", 5), in("ldx.imm", 0), in("div.x", 0), in("ret.k", 9)}, api.Data{}, 0},
		{[]api.Insn{in("ld.imm", 1), in("lsh.k", 31), in("add.k", 2147483648), in("ret.a", 0)}, api.Data{}, 0},
		{[]api.Insn{in("ret.a", 0)}, api.Data{}, 0},
	} {
		if x, e := vm.Run(q.p, q.d); x != q.want || e != api.OK {
			t.Errorf("Run of %+v over %+v: %d, %d, not %d", q.p, q.d, x, e, q.want)
		}
	}
}
