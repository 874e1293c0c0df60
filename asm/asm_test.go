package asm_test

import (
	"math"
	"slices"
	"strings"
	"testing"

	"wicketgate/api"
	"wicketgate/asm"
)

// edges answers numbers at which something changes in their digits, or a narrower number would go round.
func edges() []uint32 {
	var l []uint32
	for k := range uint32(1200) {
		l = append(l, k)
	}
	for ten := uint64(1); ten <= 1000000000; ten *= 10 {
		p := uint32(ten)
		l = append(l, p-1, p, p+1, 2*p, 4*p)
	}
	for bit := range 32 {
		l = append(l, 1<<bit-1, 1<<bit, 1<<bit+1)
	}
	return append(l, math.MaxUint32-1, math.MaxUint32)
}

// lineIs asks Line of x, and One of the answer.
func lineIs(t *testing.T, all []entry, x api.Insn) {
	t.Helper()
	want, has := written(all, x)
	wantError := api.OK
	if !has {
		wantError = api.ErrArg
	}
	line, e := asm.Line(x)
	if line != want || e != wantError {
		t.Fatalf("Line(%+v): %q, %d, not %q, %d", x, line, e, want, wantError)
	}
	if !has {
		return
	}
	if back, e := asm.One(line); back != x || e != api.OK {
		t.Fatalf("One(%q): %+v, %d, not %+v", line, back, e, x)
	}
}

func TestLineOfEachCode(t *testing.T) { // P8.1, P8.3
	all := table(t)
	fields := []api.Insn{
		{}, {K: 1}, {Jt: 1}, {Jf: 1}, {Jt: 1, Jf: 2}, {K: 3, Jt: 4}, {K: 3, Jf: 4}, {K: 5, Jt: 6, Jf: 7},
		{K: 256}, {K: 1 << 16}, {K: 1 << 31}, {K: math.MaxUint32, Jt: 255, Jf: 255},
	}
	for i := range math.MaxUint16 + 1 {
		for _, x := range fields {
			x.Code = uint16(i)
			lineIs(t, all, x)
		}
	}
}

func TestLineOfEachNumber(t *testing.T) { // P8.1, P8.3
	all := table(t)
	for _, e := range all {
		for _, k := range edges() {
			lineIs(t, all, api.Insn{Code: e.code, K: k})
			lineIs(t, all, api.Insn{Code: e.code, K: k, Jt: 10, Jf: 200})
		}
		for jt := range 256 {
			for jf := range 256 {
				lineIs(t, all, api.Insn{Code: e.code, Jt: uint8(jt), Jf: uint8(jf)})
			}
		}
	}
}

func TestLineWrittenOut(t *testing.T) { // P8.1
	for _, q := range []struct {
		x    api.Insn
		want string
	}{
		{api.Insn{}, "ld.imm 0"},
		{api.Insn{Code: 0x20, K: 60}, "ld.abs 60"},
		// That an instruction may not stand in a filter is not asked.
		{api.Insn{Code: 0x20, K: 63}, "ld.abs 63"},
		{api.Insn{Code: 0x34}, "div.k 0"},
		{api.Insn{Code: 0x64, K: 32}, "lsh.k 32"},
		{api.Insn{Code: 0x03, K: 4294967295}, "stx 4294967295"},
		{api.Insn{Code: 0x05, K: 2147483648}, "ja 2147483648"},
		{api.Insn{Code: 0x06, K: 0x7fff0000}, "ret.k 2147418112"},
		{api.Insn{Code: 0x15, K: 7, Jt: 1}, "jeq.k 7 1 0"},
		{api.Insn{Code: 0x45, Jf: 255}, "jset.k 0 0 255"},
		{api.Insn{Code: 0x1d, Jt: 100, Jf: 9}, "jeq.x 100 9"},
		{api.Insn{Code: 0x4d}, "jset.x 0 0"},
		{api.Insn{Code: 0x84}, "neg"},
		{api.Insn{Code: 0x80}, "ld.len"},
		{api.Insn{Code: 0x3c}, "div.x"},
	} {
		if line, e := asm.Line(q.x); line != q.want || e != api.OK {
			t.Errorf("Line(%+v): %q, %d, not %q", q.x, line, e, q.want)
		}
	}
	for _, x := range []api.Insn{
		{Code: 0x16, K: 1}, {Code: 0x16, Jt: 1}, {Code: 0x16, Jf: 1}, {Code: 0x94}, {Code: 0x94, K: 1}, {Code: 0x0106}, {Code: 0xffff},
		{Code: 0x06, Jt: 1}, {Code: 0x06, K: 5, Jf: 1}, {Code: 0x20, Jf: 9}, {Code: 0x60, Jt: 2}, {Code: 0x05, Jt: 2}, {Code: 0x1d, K: 1, Jt: 2, Jf: 3},
	} {
		if line, e := asm.Line(x); line != "" || e != api.ErrArg {
			t.Errorf("Line(%+v): %q, %d", x, line, e)
		}
	}
}

// texts answers the text of l as the chapter's words tell it.
func texts(t *testing.T, all []entry, l []api.Insn) string {
	t.Helper()
	text := ""
	for _, x := range l {
		line, has := written(all, x)
		if !has {
			t.Fatalf("%+v has no line", x)
		}
		text += line + "\n"
	}
	return text
}

func TestPrintWrittenOut(t *testing.T) { // P8.1
	for _, q := range []struct {
		l    []api.Insn
		want string
	}{
		{nil, ""},
		{[]api.Insn{}, ""},
		{[]api.Insn{{Code: 0x16}}, "ret.a\n"},
		{[]api.Insn{{K: 1}, {Code: 0x16}}, "ld.imm 1\nret.a\n"},
		{[]api.Insn{{Code: 0x20, K: 4}, {Code: 0x15, K: 7, Jt: 1}, {Code: 0x06}, {Code: 0x06, K: 1 << 31}}, "ld.abs 4\njeq.k 7 1 0\nret.k 0\nret.k 2147483648\n"},
		// That a program may not be a filter is not asked.
		{[]api.Insn{{Code: 0x05, K: 99}, {Code: 0x34}}, "ja 99\ndiv.k 0\n"},
	} {
		if text, e := asm.Print(q.l); text != q.want || e != api.OK {
			t.Errorf("Print(%+v): %q, %d, not %q", q.l, text, e, q.want)
		}
	}
}

func TestPrintOfEachLength(t *testing.T) { // P8.1, P8.3
	all := table(t)
	for n := range 600 {
		for seed := range uint64(4) {
			l := mixed(all, n, seed*1000+uint64(n))
			want, wantError := "", api.ErrLong
			if n <= 255 {
				want, wantError = texts(t, all, l), api.OK
			}
			text, e := asm.Print(l)
			if text != want || e != wantError {
				t.Fatalf("Print of %d: %q, %d, not %q, %d", n, text, e, want, wantError)
			}
			back, at, e := asm.Parse(text)
			if n <= 255 && (!slices.Equal(back, l) || at != 0 || e != api.OK) {
				t.Fatalf("Parse of Print of %d: %+v, %d, %d", n, back, at, e)
			}
		}
	}
}

func TestPrintOfLongLines(t *testing.T) { // P8.1
	longest := api.Insn{Code: 0x45, K: math.MaxUint32, Jt: 255, Jf: 255}
	text, e := asm.Print(slices.Repeat([]api.Insn{longest}, 255))
	if e != api.OK || text != strings.Repeat("jset.k 4294967295 255 255\n", 255) {
		t.Errorf("Print of 255 long lines: %d bytes, %d", len(text), e)
	}
	// Too many, with a text that is not too long; and with one that is.
	for _, x := range []api.Insn{{Code: 0x07}, longest} {
		for _, n := range []int{256, 300, 315, 316, 317, 5000, 100000} {
			if text, e := asm.Print(slices.Repeat([]api.Insn{x}, n)); text != "" || e != api.ErrLong {
				t.Errorf("Print of %d: %d bytes, %d", n, len(text), e)
			}
		}
	}
}

func TestPrintOfOneWithoutALine(t *testing.T) { // P8.1, R2
	all := table(t)
	for _, n := range []int{1, 2, 64, 255, 256, 257, 400, 2000} {
		l := mixed(all, n, uint64(n))
		for place := range n {
			if n > 300 && place%97 != 0 && place < n-3 {
				continue
			}
			for _, x := range []api.Insn{{Code: 0x94}, {Code: 0x16, K: 1}, {Code: 0x1d, K: 1}, {Code: 0x06, Jf: 1}} {
				broken := slices.Clone(l)
				broken[place] = x
				// It goes ahead of too many, wherever it stands.
				if text, e := asm.Print(broken); text != "" || e != api.ErrArg {
					t.Fatalf("Print of %d with %+v at %d: %q, %d", n, x, place, text, e)
				}
			}
		}
	}
}

func TestExamples(t *testing.T) { // the chapter's
	for line, x := range map[string]api.Insn{
		"ld.abs 4":    {Code: 0x20, K: 4},
		"jeq.k 7 1 0": {Code: 0x15, K: 7, Jt: 1},
		"ret.a":       {Code: 0x16},
	} {
		if l, e := asm.Line(x); l != line || e != api.OK {
			t.Error(l, e)
		}
		if y, e := asm.One(line); y != x || e != api.OK {
			t.Error(y, e)
		}
	}
	for _, x := range []api.Insn{{Code: 0x16, K: 1}, {Code: 0x94}} {
		if line, e := asm.Line(x); line != "" || e != api.ErrArg {
			t.Error(line, e)
		}
	}
	for _, line := range []string{"ret.k 07", "ret.k", "jeq.x 1 256", "ret.k 4294967296"} {
		if x, e := asm.One(line); x != (api.Insn{}) || e != api.ErrAsm {
			t.Error(line, x, e)
		}
	}
	if l, at, e := asm.Parse("ld.imm 1\nret.a\n"); !slices.Equal(l, []api.Insn{{K: 1}, {Code: 0x16}}) || at != 0 || e != api.OK {
		t.Error(l, at, e)
	}
	if l, at, e := asm.Parse(""); len(l) != 0 || at != 0 || e != api.OK {
		t.Error(l, at, e)
	}
	if l, at, e := asm.Parse("ret.a"); len(l) != 0 || at != 0 || e != api.ErrAsm {
		t.Error(l, at, e)
	}
}

func TestWhatIsHandedInStays(t *testing.T) { // R3
	all := table(t)
	bad := api.Insn{Code: 0x94, K: 9}
	for _, l := range [][]api.Insn{nil, mixed(all, 5, 1), mixed(all, 255, 2), mixed(all, 300, 3), {bad}, append(mixed(all, 9, 4), bad)} {
		memory := append(slices.Clone(l), bad, api.Insn{Code: 0x16}, api.Insn{K: 7})
		before := slices.Clone(memory)
		asm.Print(memory[:len(l)])
		if !slices.Equal(memory, before) {
			t.Errorf("%+v has become %+v", before, memory)
		}
	}
}

func TestAnswersAreNewMemory(t *testing.T) { // R3
	all := table(t)
	for _, n := range []int{1, 2, 3, 20, 255} {
		text := texts(t, all, mixed(all, n, uint64(n)))
		one, _, _ := asm.Parse(text)
		other, _, _ := asm.Parse(text)
		want := slices.Clone(other)
		one = one[:cap(one)]
		for i := range one {
			one[i] = api.Insn{Code: 0x94, K: 77}
		}
		third, _, _ := asm.Parse(text)
		if !slices.Equal(other, want) || !slices.Equal(third, want) {
			t.Errorf("two answers of Parse of %d share memory", n)
		}
	}
}
