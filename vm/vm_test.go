package vm_test

import (
	"math"
	"slices"
	"strings"
	"testing"

	"wicketgate/api"
	"wicketgate/insn"
	"wicketgate/vm"
)

// in answers the instruction of a name, with a K.
func in(name string, k uint32) api.Insn {
	code, ok := insn.Code(name)
	if !ok {
		panic(name)
	}
	return api.Insn{Code: code, K: k}
}

// jump answers the test of a name.
func jump(name string, k uint32, jt, jf uint8) api.Insn {
	x := in(name, k)
	x.Jt, x.Jf = jt, jf
	return x
}

// counted answers the data whose words tell their places: 0x100, 0x101 and so on.
func counted() api.Data {
	d := api.Data{Nr: 0x100, Arch: 0x101, Ip: 0x103<<32 + 0x102}
	for i := range d.Args {
		low := uint64(0x104 + 2*i)
		d.Args[i] = (low+1)<<32 + low
	}
	return d
}

// word answers the data's word at an offset as the document's words tell it.
func word(d api.Data, offset uint32) uint32 {
	l := []uint32{d.Nr, d.Arch, uint32(d.Ip % (1 << 32)), uint32(d.Ip / (1 << 32))}
	for _, x := range d.Args {
		l = append(l, uint32(x%(1<<32)), uint32(x/(1<<32)))
	}
	return l[offset/4]
}

// The bits that say what is done, by the names ahead of .k and .x.
var (
	doing  = map[string]uint16{"add": 0x00, "sub": 0x10, "mul": 0x20, "div": 0x30, "or": 0x40, "and": 0x50, "lsh": 0x60, "rsh": 0x70, "xor": 0xa0}
	asking = map[string]uint16{"jeq": 0x10, "jgt": 0x20, "jge": 0x30, "jset": 0x40}
)

// after answers what a step answers as the chapter's table tells it.
func after(x api.Insn, d api.Data, m api.Vm) (api.Vm, uint32, bool) {
	name, _ := insn.Name(x.Code)
	head, side, _ := strings.Cut(name, ".")
	other := x.K
	if side == "x" {
		other = m.X
	}
	was := m
	m.Pc++
	if what, is := doing[head]; is {
		a, ok := become(what, m.A, other)
		if !ok {
			return was, 0, true
		}
		m.A = a
		return m, 0, false
	}
	if what, is := asking[head]; is {
		if holds(what, m.A, other) {
			m.Pc += int(x.Jt)
		} else {
			m.Pc += int(x.Jf)
		}
		return m, 0, false
	}
	switch name {
	case "ld.abs":
		m.A = word(d, x.K)
	case "ld.len":
		m.A = 64
	case "ldx.len":
		m.X = 64
	case "ld.imm":
		m.A = x.K
	case "ldx.imm":
		m.X = x.K
	case "ld.mem":
		m.A = m.Mem[x.K]
	case "ldx.mem":
		m.X = m.Mem[x.K]
	case "st":
		m.Mem[x.K] = m.A
	case "stx":
		m.Mem[x.K] = m.X
	case "neg":
		m.A, _ = become(0x10, 0, m.A)
	case "ja":
		m.Pc += int(x.K)
	case "tax":
		m.X = m.A
	case "txa":
		m.A = m.X
	case "ret.k":
		return was, x.K, true
	case "ret.a":
		return was, m.A, true
	default:
		panic(name)
	}
	return m, 0, false
}

// all answers the machines ahead of each step, and what is returned, as the chapter's table tells it.
func all(p []api.Insn, d api.Data) (ahead []api.Vm, returned uint32) {
	m, over := api.Vm{}, false
	for !over {
		ahead = append(ahead, m)
		m, returned, over = after(p[m.Pc], d, m)
	}
	return ahead, returned
}

// may answers the numbers K that the instruction of a name may have.
func may(name string) []uint32 {
	switch name {
	case "ld.abs":
		return []uint32{0, 4, 8, 12, 16, 20, 24, 28, 32, 36, 40, 44, 48, 52, 56, 60}
	case "ld.mem", "ldx.mem", "st", "stx":
		return []uint32{0, 1, 2, 3, 4, 5, 6, 7, 8, 9, 10, 11, 12, 13, 14, 15}
	case "lsh.k", "rsh.k":
		return []uint32{0, 1, 2, 15, 16, 17, 30, 31}
	case "div.k":
		return some()[1:]
	case "ja":
		return []uint32{0, 1, 2, 7}
	}
	return some()
}

// machine answers a machine whose scratch words tell their places.
func machine(pc int, a, x uint32) api.Vm {
	m := api.Vm{Pc: pc, A: a, X: x}
	for i := range m.Mem {
		m.Mem[i] = 0x200 + uint32(i)
	}
	return m
}

// around answers a program of twelve instructions that has x at a place, and returns at all others.
func around(x api.Insn, place int) []api.Insn {
	p := slices.Repeat([]api.Insn{in("ret.k", 0xBAD)}, 12)
	p[place] = x
	return p
}

func TestStepOfEachCode(t *testing.T) { // P5.2
	d := counted()
	for _, name := range insn.Codes() {
		for _, k := range may(name) {
			for _, to := range [][2]uint8{{0, 0}, {0, 1}, {5, 2}, {3, 3}} {
				x := jump(name, k, to[0], to[1])
				for _, a := range some() {
					for _, b := range some() {
						m := machine(3, a, b)
						wantM, want, wantOver := after(x, d, m)
						got, returned, over, e := vm.Step(around(x, 3), d, m)
						if e != api.OK || got != wantM || returned != want || over != wantOver {
							t.Fatalf("%s %+v of %+v: %+v, %#x, %t, %d, not %+v, %#x, %t", name, x, m, got, returned, over, e, wantM, want, wantOver)
						}
					}
				}
			}
		}
	}
}

func TestStepWrittenOut(t *testing.T) { // P5.2
	d := counted()
	for _, q := range []struct {
		x    api.Insn
		want api.Vm // of A 12, X 10, Mem 0x200 and so on
	}{
		{in("ld.abs", 0), machine(2, 0x100, 10)}, {in("ld.abs", 12), machine(2, 0x103, 10)}, {in("ld.abs", 60), machine(2, 0x10f, 10)},
		{in("ld.len", 9), machine(2, 64, 10)}, {in("ldx.len", 9), machine(2, 12, 64)},
		{in("ld.imm", 9), machine(2, 9, 10)}, {in("ldx.imm", 9), machine(2, 12, 9)},
		{in("ld.mem", 15), machine(2, 0x20f, 10)}, {in("ldx.mem", 1), machine(2, 12, 0x201)},
		{in("add.k", 4), machine(2, 16, 10)}, {in("add.x", 4), machine(2, 22, 10)},
		{in("sub.k", 13), machine(2, math.MaxUint32, 10)}, {in("sub.x", 13), machine(2, 2, 10)},
		{in("mul.k", 3), machine(2, 36, 10)}, {in("mul.x", 3), machine(2, 120, 10)},
		{in("div.k", 5), machine(2, 2, 10)}, {in("div.x", 5), machine(2, 1, 10)}, {in("div.x", 0), machine(2, 1, 10)},
		{in("or.k", 3), machine(2, 15, 10)}, {in("or.x", 3), machine(2, 14, 10)},
		{in("and.k", 6), machine(2, 4, 10)}, {in("and.x", 6), machine(2, 8, 10)},
		{in("lsh.k", 31), machine(2, 0, 10)}, {in("lsh.x", 31), machine(2, 12288, 10)},
		{in("rsh.k", 2), machine(2, 3, 10)}, {in("rsh.x", 2), machine(2, 0, 10)},
		{in("xor.k", 5), machine(2, 9, 10)}, {in("xor.x", 5), machine(2, 6, 10)},
		{in("neg", 5), machine(2, math.MaxUint32-11, 10)},
		{in("tax", 5), machine(2, 12, 12)}, {in("txa", 5), machine(2, 10, 10)},
		{in("ja", 0), machine(2, 12, 10)}, {in("ja", 9), machine(11, 12, 10)},
		{jump("jeq.k", 12, 1, 4), machine(3, 12, 10)}, {jump("jeq.k", 10, 1, 4), machine(6, 12, 10)},
		{jump("jeq.x", 12, 1, 4), machine(6, 12, 10)}, {jump("jgt.k", 11, 1, 4), machine(3, 12, 10)},
		{jump("jgt.k", 12, 1, 4), machine(6, 12, 10)}, {jump("jgt.x", 12, 1, 4), machine(3, 12, 10)},
		{jump("jge.k", 12, 1, 4), machine(3, 12, 10)}, {jump("jge.k", 13, 1, 4), machine(6, 12, 10)},
		{jump("jge.x", 13, 1, 4), machine(3, 12, 10)}, {jump("jset.k", 3, 1, 4), machine(6, 12, 10)},
		{jump("jset.k", 4, 1, 4), machine(3, 12, 10)}, {jump("jset.x", 3, 1, 4), machine(3, 12, 10)},
		{jump("jset.x", 3, 9, 0), machine(11, 12, 10)}, {jump("jeq.x", 3, 0, 9), machine(11, 12, 10)},
	} {
		if got, returned, over, e := vm.Step(around(q.x, 1), d, machine(1, 12, 10)); got != q.want || returned != 0 || over || e != api.OK {
			t.Errorf("%+v: %+v, %d, %t, %d, not %+v", q.x, got, returned, over, e, q.want)
		}
	}
	for _, q := range []struct {
		x    api.Insn
		at   uint32
		want uint32
	}{{in("st", 0), 0, 12}, {in("st", 15), 15, 12}, {in("stx", 0), 0, 10}, {in("stx", 9), 9, 10}} {
		want := machine(2, 12, 10)
		want.Mem[q.at] = q.want
		if got, returned, over, e := vm.Step(around(q.x, 1), d, machine(1, 12, 10)); got != want || returned != 0 || over || e != api.OK {
			t.Errorf("%+v: %+v, %d, %t, %d, not %+v", q.x, got, returned, over, e, want)
		}
	}
}

func TestStepThatReturns(t *testing.T) { // P5.2: the machine is as it was
	for _, q := range []struct {
		x    api.Insn
		m    api.Vm
		want uint32
	}{
		{in("ret.k", 9), machine(4, 12, 10), 9},
		{in("ret.k", 0), machine(4, 12, 10), 0},
		{in("ret.k", math.MaxUint32), machine(4, 12, 10), math.MaxUint32},
		{in("ret.a", 9), machine(4, 12, 10), 12},
		{in("ret.a", 9), machine(4, 1<<31, 10), 1 << 31},
		{in("div.x", 9), machine(4, 12, 0), 0},
		{in("div.x", 0), machine(4, 0, 0), 0},
	} {
		for _, place := range []int{0, 4, 10} {
			m := q.m
			m.Pc = place
			if got, returned, over, e := vm.Step(around(q.x, place), api.Data{}, m); got != m || returned != q.want || !over || e != api.OK {
				t.Errorf("%+v of %+v: %+v, %d, %t, %d", q.x, m, got, returned, over, e)
			}
		}
	}
}

func TestStepAtEachPlace(t *testing.T) { // P5.2: those that nothing leads to as well
	p := []api.Insn{in("ja", 2), in("ld.imm", 7), jump("jeq.k", 7, 0, 1), in("ret.a", 0), in("tax", 0), in("ret.k", 5)}
	for place := range p {
		m := machine(place, 7, 3)
		wantM, want, wantOver := after(p[place], api.Data{}, m)
		if got, returned, over, e := vm.Step(p, api.Data{}, m); got != wantM || returned != want || over != wantOver || e != api.OK {
			t.Errorf("at %d: %+v, %d, %t, %d", place, got, returned, over, e)
		}
	}
}

func TestStepAtNoPlace(t *testing.T) { // P5.2, R2
	for n := 1; n <= 64; n++ {
		p := append(slices.Repeat([]api.Insn{in("ld.imm", 1)}, n-1), in("ret.k", 9))
		far := []int{-1, -2, -n, n, n + 1, 255, 256, 1 << 16, 1 << 31, 1 << 32, 1<<32 + 1, -1 << 32, math.MinInt, math.MinInt + 1, math.MaxInt}
		for _, pc := range far {
			if m, returned, over, e := vm.Step(p, counted(), machine(pc, 1, 2)); m != (api.Vm{}) || returned != 0 || over || e != api.ErrArg {
				t.Errorf("of %d at %d: %+v, %d, %t, %d", n, pc, m, returned, over, e)
			}
		}
		for pc := range n {
			if _, _, over, e := vm.Step(p, counted(), machine(pc, 1, 2)); over != (pc == n-1) || e != api.OK {
				t.Errorf("of %d at %d: %t, %d", n, pc, over, e)
			}
		}
	}
}

func TestProgramsThatMayNotBe(t *testing.T) { // P5.2, P5.3, R2
	ret := in("ret.k", 7)
	for _, q := range []struct {
		p    []api.Insn
		want api.Errno
	}{
		{nil, api.ErrSize}, {[]api.Insn{}, api.ErrSize}, {slices.Repeat([]api.Insn{ret}, 65), api.ErrSize}, {slices.Repeat([]api.Insn{ret}, 300), api.ErrSize},
		{[]api.Insn{{Code: 0x94, K: 2}, ret}, api.ErrCode}, {[]api.Insn{{Code: 0x106}}, api.ErrCode},
		{[]api.Insn{in("ld.abs", 64), ret}, api.ErrLoad}, {[]api.Insn{in("ld.abs", 3), ret}, api.ErrLoad},
		{[]api.Insn{in("div.k", 0), ret}, api.ErrZero}, {[]api.Insn{in("lsh.k", 32), ret}, api.ErrShift},
		{[]api.Insn{in("stx", 16), ret}, api.ErrMem}, {[]api.Insn{in("ja", 1), ret}, api.ErrJump}, {[]api.Insn{jump("jeq.x", 0, 0, 1), ret}, api.ErrJump},
		{[]api.Insn{ret, in("ld.imm", 7)}, api.ErrLast}, {[]api.Insn{in("ja", math.MaxUint32), ret}, api.ErrJump},
		// What is wrong stands where nothing leads to.
		{[]api.Insn{ret, in("ld.mem", 99), ret}, api.ErrMem},
	} {
		// That there is no such place is told only of a program that may be.
		for _, pc := range []int{0, 1, -1, 64, math.MaxInt} {
			if m, x, over, e := vm.Step(q.p, counted(), machine(pc, 1, 2)); m != (api.Vm{}) || x != 0 || over || e != q.want {
				t.Errorf("Step of %+v at %d: %+v, %d, %t, %d, not %d", q.p, pc, m, x, over, e, q.want)
			}
		}
		if x, e := vm.Run(q.p, counted()); x != 0 || e != q.want {
			t.Errorf("Run of %+v: %d, %d, not %d", q.p, x, e, q.want)
		}
		if l, e := vm.Trace(q.p, counted()); len(l) != 0 || e != q.want {
			t.Errorf("Trace of %+v: %v, %d, not %d", q.p, l, e, q.want)
		}
	}
}
