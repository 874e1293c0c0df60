package asm_test

import (
	"fmt"
	"math"
	"slices"
	"strings"
	"testing"

	"wicketgate/api"
	"wicketgate/asm"
)

// oneIs asks One of a line, and Line of the answer; it answers whether it is an instruction's.
func oneIs(t *testing.T, all []entry, line string) bool {
	t.Helper()
	want, is := told(all, line)
	wantError := api.OK
	if !is {
		wantError = api.ErrAsm
	}
	x, e := asm.One(line)
	if x != want || e != wantError {
		t.Fatalf("One(%.60q): %+v, %d, not %+v, %d", line, x, e, want, wantError)
	}
	if !is {
		return false
	}
	if back, e := asm.Line(x); back != line || e != api.OK {
		t.Fatalf("Line(%+v): %q, %d, not %q", x, back, e, line)
	}
	return true
}

// parseIs asks Parse of a text, and Print of the answer; it answers whether it is a program's.
func parseIs(t *testing.T, all []entry, text string) bool {
	t.Helper()
	want, wantAt, wantError := toldAll(all, text)
	l, at, e := asm.Parse(text)
	if !slices.Equal(l, want) || at != wantAt || e != wantError {
		t.Fatalf("Parse(%.200q): %+v, %d, %d, not %+v, %d, %d", text, l, at, e, want, wantAt, wantError)
	}
	if e != api.OK {
		return false
	}
	if back, e := asm.Print(l); back != text || e != api.OK {
		t.Fatalf("Print(%+v): %q, %d, not %q", l, back, e, text)
	}
	return true
}

// digits answers what may be thought to be a number, and what is none.
func digits() []string {
	l := []string{
		"", "-", "+", "-0", "+0", "-1", "+1", "00", "01", "07", "000", "010", "0255", "04294967295", "0x0", "0x10", "0X1", "0b1", "0o7", "1_0", "1,0", "1.0", "1.", ".1",
		"1e1", "1e0", "a", "ff", "1a", "a1", "0 ", " 0", "1\t", "\t1", "1\n", "1\r", "1\x00", "\x001", "\x00", "１", "٣", "1\u00a0", "\u20001", "\xff", "1\xff", "NaN", "inf", "256", "257", "511", "512", "65535", "65536", "65791",
		"4294967294", "4294967295", "4294967296", "4294967297", "4294967551", "8589934591", "9223372036854775807", "9223372036854775808", "18446744073709551615", "18446744073709551616", "18446744073709551617",
		"18446744073709551871", "18446744078004518911", "340282366920938463463374607431768211456", "99999999999999999999", strings.Repeat("9", 400), strings.Repeat("0", 400), "1" + strings.Repeat("0", 400),
	}
	for n := range 300 {
		l = append(l, fmt.Sprint(n))
	}
	return l
}

func TestOneOfEachNumber(t *testing.T) { // P8.2
	all := table(t)
	for _, e := range all {
		fine := 0
		for _, d := range digits() {
			for _, line := range []string{
				e.name + d, e.name + " " + d, e.name + "  " + d, e.name + " " + d + " ", " " + e.name + " " + d, e.name + " " + d + "\n", e.name + "\t" + d,
				e.name + " " + d + " 0", e.name + " 1 " + d, e.name + " 0 1 " + d, e.name + " 0 " + d + " 2", e.name + " " + d + " 3 4", e.name + " 5 6 7 " + d, e.name + " " + d + " 5 6 7",
				e.name + " 300 " + d, e.name + " 300 " + d + " 255", e.name + " 300 255 " + d, e.name + " 01 1 " + d, e.name + " 1  " + d, e.name + " 1 2  " + d, e.name + " 1  2 " + d,
			} {
				if oneIs(t, all, line) {
					fine++
				}
			}
		}
		if want := []int{1, 304, 512, 1000}[len(e.fields)]; fine < want {
			t.Errorf("only %d lines of %s are fine", fine, e.name)
		}
	}
}

func TestOneOfEachSequence(t *testing.T) { // P8.2
	all := table(t)
	fine := 0
	parts := []string{"ret.a", "ret.k", "jeq.x", "jeq.k", " ", "0", "7", "25", "-", "\n"}
	for n := range 8 {
		if n == 7 {
			parts = []string{"jeq.x", "jeq.k", " ", "0", "25", "6"}
		}
		sequences(n, parts, func(l []string) {
			if oneIs(t, all, strings.Join(l, "")) {
				fine++
			}
		})
	}
	if fine < 140 {
		t.Errorf("only %d are fine", fine)
	}
}

func TestOneOfNearLines(t *testing.T) { // P8.2
	all := table(t)
	for _, e := range all {
		x := api.Insn{Code: e.code}
		for _, field := range e.fields {
			switch field {
			case "K":
				x.K = 4294967290
			case "Jt":
				x.Jt = 250
			case "Jf":
				x.Jf = 109
			}
		}
		line, _ := written(all, x)
		if !oneIs(t, all, line) {
			t.Errorf("%q is a line", line)
		}
		for at := range len(line) + 1 {
			for b := range 256 {
				oneIs(t, all, line[:at]+string([]byte{byte(b)})+line[at:])
				if at < len(line) {
					oneIs(t, all, line[:at]+string([]byte{byte(b)})+line[at+1:])
				}
			}
			for to := at; to <= len(line); to++ {
				oneIs(t, all, line[:at]+line[to:])
				oneIs(t, all, line[at:to])
			}
		}
	}
}

func TestOneWrittenOut(t *testing.T) { // P8.2
	for line, want := range map[string]api.Insn{
		"ld.imm 0":                  {},
		"ret.k 4294967295":          {Code: 0x06, K: 4294967295},
		"ld.abs 2":                  {Code: 0x20, K: 2},
		"div.k 0":                   {Code: 0x34},
		"stx 16":                    {Code: 0x03, K: 16},
		"ja 1000":                   {Code: 0x05, K: 1000},
		"jset.k 4294967295 255 254": {Code: 0x45, K: 4294967295, Jt: 255, Jf: 254},
		"jgt.x 255 0":               {Code: 0x2d, Jt: 255},
		"tax":                       {Code: 0x07},
		"xor.x":                     {Code: 0xac},
	} {
		if x, e := asm.One(line); x != want || e != api.OK {
			t.Errorf("One(%q): %+v, %d, not %+v", line, x, e, want)
		}
	}
	for _, line := range []string{
		"", " ", "\n", "0", "ret", "ret.", "ret.a ", " ret.a", "ret.a\n", "\nret.a", "ret.a\r", "ret.a 0", "ret.a ret.a", "RET.A", "ret.a;", "ret.a # and so on",
		"ret.k", "ret.k ", "ret.k  1", "ret.k\t1", "ret.k 1 ", "ret.k 1\n", "ret.k 1 2", "ret.k 07", "ret.k 00", "ret.k -1", "ret.k -0", "ret.k +1", "ret.k 0x7", "ret.k 1_0", "ret.k 4294967296", "ret.k 18446744073709551616", "ret.k a",
		"jeq.k 1", "jeq.k 1 2", "jeq.k 1 2 3 4", "jeq.k 1 256 0", "jeq.k 1 0 256", "jeq.k 4294967296 0 0", "jeq.k 1 2 03", "jeq.k 1 02 3", "jeq.k 01 2 3", "jeq.k 1,2,3",
		"jeq.x", "jeq.x 1", "jeq.x 1 2 3", "jeq.x 256 1", "jeq.x 1 256", "jeq.x 1 2 ", "ld 4", "ld.abs4", "ld.abs [4]", "st.mem 1", "mod.k 2", "20 4", "neg 0", "ret.k 1.0", "ret.k １",
	} {
		if x, e := asm.One(line); x != (api.Insn{}) || e != api.ErrAsm {
			t.Errorf("One(%q): %+v, %d", line, x, e)
		}
	}
}

func TestOneOfLongTexts(t *testing.T) { // P8.2, R1
	for _, long := range []string{
		strings.Repeat(" ", 1<<20), strings.Repeat("0", 1<<20), strings.Repeat("9", 1<<20), strings.Repeat("ret.k 1\n", 1<<17), "ret.k " + strings.Repeat("0", 1<<20),
		"ret.k " + strings.Repeat("1", 1<<20), "ret.k 1" + strings.Repeat(" ", 1<<20), "ret.k 1" + strings.Repeat(" 1", 1<<19), strings.Repeat("ret.k", 1<<18), "jeq.x 1 " + strings.Repeat("2", 1<<20),
	} {
		if x, e := asm.One(long); x != (api.Insn{}) || e != api.ErrAsm {
			t.Errorf("One(%.20q..): %+v, %d", long, x, e)
		}
	}
}

func TestParseWrittenOut(t *testing.T) { // P8.2
	for _, q := range []struct {
		text string
		l    []api.Insn
		at   int
		want api.Errno
	}{
		{"", nil, 0, api.OK},
		{"ret.a\n", []api.Insn{{Code: 0x16}}, 0, api.OK},
		{"ld.imm 1\nret.a\n", []api.Insn{{K: 1}, {Code: 0x16}}, 0, api.OK},
		{"ld.abs 4\njeq.k 7 1 0\nret.k 0\nret.k 2147483648\n", []api.Insn{{Code: 0x20, K: 4}, {Code: 0x15, K: 7, Jt: 1}, {Code: 0x06}, {Code: 0x06, K: 1 << 31}}, 0, api.OK},
		// That a program may not be a filter is not asked.
		{"div.k 0\nja 99\n", []api.Insn{{Code: 0x34}, {Code: 0x05, K: 99}}, 0, api.OK},
		{"ret.a", nil, 0, api.ErrAsm},
		{"\n", nil, 0, api.ErrAsm},
		{" ", nil, 0, api.ErrAsm},
		{"\nret.a\n", nil, 0, api.ErrAsm},
		{"ret.a\n\n", nil, 6, api.ErrAsm},
		{"ret.a\n\nret.a\n", nil, 6, api.ErrAsm},
		{"ret.a\nret.a", nil, 6, api.ErrAsm},
		{"ret.a\nret.a ", nil, 6, api.ErrAsm},
		{"ret.a\nret.a \n", nil, 6, api.ErrAsm},
		{"ret.a\n ", nil, 6, api.ErrAsm},
		{"ret.a\r\n", nil, 0, api.ErrAsm},
		{"ret.a\rret.a\n", nil, 0, api.ErrAsm},
		{"ret.k 1\nret.k 01\nret.k\n", nil, 8, api.ErrAsm},
		{"ld.abs 4\njeq.k 7 1 0\nret.k 0\nret.k 4294967296\n", nil, 29, api.ErrAsm},
		{"ret.a\x00\n", nil, 0, api.ErrAsm},
		{"ret.a\nret.k １\nret.a\n", nil, 6, api.ErrAsm},
		{"ret.a ret.a\n", nil, 0, api.ErrAsm},
	} {
		if l, at, e := asm.Parse(q.text); !slices.Equal(l, q.l) || at != q.at || e != q.want {
			t.Errorf("Parse(%q): %+v, %d, %d, not %+v, %d, %d", q.text, l, at, e, q.l, q.at, q.want)
		}
	}
}

func TestParseOfEachSequence(t *testing.T) { // P8.2, P8.3
	all := table(t)
	fine := 0
	parts := []string{"ret.a\n", "ret.k 1\n", "jeq.x 1 2\n", "jeq.k 7 1 0\n", "\n", "tax", "ret.k 07\n", " ", "3", "\r\n"}
	for n := range 7 {
		if n == 6 {
			parts = []string{"ret.a\n", "st 1\n", "\n", "ret.k", " ", "23"}
		}
		sequences(n, parts, func(l []string) {
			if parseIs(t, all, strings.Join(l, "")) {
				fine++
			}
		})
	}
	if fine < 1500 {
		t.Errorf("only %d are fine", fine)
	}
}

func TestParseOfEachLength(t *testing.T) { // P8.2
	all := table(t)
	for n := range 700 {
		l := mixed(all, n, uint64(n)+5)
		text := texts(t, all, l)
		if fine := parseIs(t, all, text); fine != (n <= 255) {
			t.Errorf("Parse of %d: %v", n, fine)
		}
	}
	// One more than may be is wrong where it begins, whatever it is, and whatever comes then.
	most := strings.Repeat("tax\n", 255)
	for _, behind := range []string{"tax\n", "tax", "\n", "ret.k 01\n", "tax\ntax\n", "x", " ", "tax\n?"} {
		if l, at, e := asm.Parse(most + behind); len(l) != 0 || at != 4*255 || e != api.ErrAsm {
			t.Errorf("Parse of 255 lines and %q: %d, %d, %d", behind, len(l), at, e)
		}
	}
	if l, at, e := asm.Parse(most); len(l) != 255 || at != 0 || e != api.OK {
		t.Errorf("Parse of 255 lines: %d, %d, %d", len(l), at, e)
	}
	// What is wrong further ahead goes ahead of that.
	if l, at, e := asm.Parse("ta" + most + "tax\n"); len(l) != 0 || at != 0 || e != api.ErrAsm {
		t.Errorf("Parse of a wrong line and 255: %d, %d, %d", len(l), at, e)
	}
}

func TestParseOfManyBytes(t *testing.T) { // P8.2
	longest, _ := asm.Line(api.Insn{Code: 0x45, K: math.MaxUint32, Jt: 255, Jf: 255})
	full := strings.Repeat(longest+"\n", 255)
	if l, at, e := asm.Parse(full); len(l) != 255 || at != 0 || e != api.OK {
		t.Errorf("Parse of 255 long lines: %d, %d, %d", len(l), at, e)
	}
	for _, q := range []struct {
		ahead string
		place int
	}{{"", 0}, {"ret.a\n", 6}, {"ret.a\n\n", 6}, {full, len(full)}, {full + "ret.a\n", len(full)}} {
		for _, fill := range []string{"?", "\n", " ", "0", "\xff"} {
			for _, n := range []int{len(q.ahead) + 1, 8191, 8192} {
				text := q.ahead + strings.Repeat(fill, n-len(q.ahead))
				if l, at, e := asm.Parse(text); len(l) != 0 || at != q.place || e != api.ErrAsm {
					t.Errorf("Parse of %d bytes: %d, %d, %d, not at %d", n, len(l), at, e, q.place)
				}
			}
			// Too long goes ahead of what is wrong.
			for _, n := range []int{8193, 8194, 16384, 1 << 20} {
				text := q.ahead + strings.Repeat(fill, n-len(q.ahead))
				if l, at, e := asm.Parse(text); len(l) != 0 || at != 0 || e != api.ErrLong {
					t.Errorf("Parse of %d bytes: %d, %d, %d", n, len(l), at, e)
				}
			}
		}
	}
}

func TestWhatStandsBehindDoesNotCount(t *testing.T) { // P8.3
	all := table(t)
	for n := range 30 {
		for seed := range uint64(10) {
			ahead := texts(t, all, mixed(all, n, seed*100+uint64(n)))
			for _, wrong := range []string{"\n", "ret.k\n", "ret.k 01\n", "ret.a \n", "?\n", "jeq.x 1 256\n"} {
				for _, behind := range []string{"", "ret.a", "ret.a\n", "?", "\n\n", wrong, ahead, strings.Repeat("?", 999)} {
					if l, at, e := asm.Parse(ahead + wrong + behind); len(l) != 0 || at != len(ahead) || e != api.ErrAsm {
						t.Fatalf("Parse(%q): %d, %d, %d", ahead+wrong+behind, len(l), at, e)
					}
				}
			}
		}
	}
}

func TestParseOfNearTexts(t *testing.T) { // P8.2, P8.3
	all := table(t)
	next := dice(9)
	fine := 0
	for n := 1; n <= 12; n++ {
		for seed := range uint64(40) {
			text := texts(t, all, mixed(all, n, seed*55+uint64(n)))
			for at := range len(text) {
				for _, near := range []string{
					text[:at], text[at:], text[:at] + text[at+1:], text[:at] + "\n" + text[at:], text[:at] + " " + text[at:], text[:at] + "0" + text[at:], text[:at] + string([]byte{byte(next(256))}) + text[at+1:],
				} {
					if parseIs(t, all, near) {
						fine++
					}
				}
			}
		}
	}
	if fine < 1000 {
		t.Errorf("only %d are fine", fine)
	}
}

func FuzzParse(f *testing.F) { // P8.2, P8.3
	all := table(f)
	for _, text := range []string{"", "ret.a\n", "jeq.k 7 1 0\nret.k 4294967295\n", "jset.x 255 256\n", "ret.a\nret.a", "st 07\n"} {
		f.Add(text)
	}
	f.Fuzz(func(t *testing.T, text string) {
		parseIs(t, all, text)
		oneIs(t, all, text)
	})
}
