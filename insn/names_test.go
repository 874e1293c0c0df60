package insn_test

import (
	"maps"
	"math"
	"slices"
	"strconv"
	"strings"
	"testing"

	"wicketgate/api"
	"wicketgate/insn"
)

// The chapter's table, row by row as it stands there.
var chapter = []struct {
	form int
	row  string
}{
	{api.FormWord, "20 ld.abs"},
	{api.FormNone, "80 ld.len, 81 ldx.len, 16 ret.a, 84 neg, 07 tax, 87 txa"},
	{api.FormK, "06 ret.k, 00 ld.imm, 01 ldx.imm, 04 add.k, 14 sub.k, 24 mul.k, 34 div.k, 44 or.k, 54 and.k, 64 lsh.k, 74 rsh.k, a4 xor.k"},
	{api.FormNone, "0c add.x, 1c sub.x, 2c mul.x, 3c div.x, 4c or.x, 5c and.x, 6c lsh.x, 7c rsh.x, ac xor.x"},
	{api.FormMem, "60 ld.mem, 61 ldx.mem, 02 st, 03 stx"},
	{api.FormJump, "05 ja"},
	{api.FormTest, "15 jeq.k, 25 jgt.k, 35 jge.k, 45 jset.k"},
	{api.FormTestX, "1d jeq.x, 2d jgt.x, 3d jge.x, 4d jset.x"},
}

type entry struct {
	name string
	form int
}

// table answers the chapter's table, by codes.
func table(t *testing.T) map[uint16]entry {
	t.Helper()
	all := map[uint16]entry{}
	for _, r := range chapter {
		for _, pair := range strings.Split(r.row, ", ") {
			digits, name, _ := strings.Cut(pair, " ")
			code, err := strconv.ParseUint(digits, 16, 16)
			if err != nil {
				t.Fatal(err)
			}
			all[uint16(code)] = entry{name, r.form}
		}
	}
	if len(all) != 41 {
		t.Fatal(len(all))
	}
	return all
}

func TestCodes(t *testing.T) { // P2.3
	want := table(t)
	var codes []uint16
	for code, name := range insn.Codes() {
		codes = append(codes, code)
		if e, ok := want[code]; !ok || e.name != name {
			t.Errorf("Codes tells %02x %q", code, name)
		}
	}
	if rising := slices.Sorted(maps.Keys(want)); !slices.Equal(codes, rising) {
		t.Errorf("Codes tells %02x, not %02x", codes, rising)
	}
}

func TestCodesIsLeftEarly(t *testing.T) { // P2.3, R6
	all := insn.Codes()
	var whole []uint16
	for code := range all {
		whole = append(whole, code)
	}
	for n := 1; n <= len(whole); n++ {
		var seen []uint16
		for code := range all {
			seen = append(seen, code)
			if len(seen) == n {
				break
			}
		}
		if !slices.Equal(seen, whole[:n]) {
			t.Errorf("left behind %d, Codes told %02x", n, seen)
		}
	}
	pairs := 0
	for a := range all {
		for b := range all {
			if a != b {
				pairs++
			}
		}
	}
	if pairs != 41*40 {
		t.Errorf("gone through within itself, Codes told %d pairs", pairs)
	}
}

func TestNameAndFormOfEachCode(t *testing.T) { // P2.3
	want := table(t)
	for i := range math.MaxUint16 + 1 {
		code := uint16(i)
		name, ok := insn.Name(code)
		form := insn.Form(code)
		e, there := want[code]
		if !there {
			e = entry{"", -1}
		}
		if ok != there || name != e.name || form != e.form {
			t.Errorf("%02x: %q, %v, form %d", code, name, ok, form)
		}
	}
}

func TestCode(t *testing.T) { // P2.3
	for code, e := range table(t) {
		if got, ok := insn.Code(e.name); !ok || got != code {
			t.Errorf("Code(%q): %02x, %v", e.name, got, ok)
		}
	}
}

func TestCodeOfNoName(t *testing.T) { // P2.3
	for _, name := range []string{
		"", " ", ".", "ld", "ret", "jeq", "ld.", ".abs", "ld.ab", "ld.abss", "ld.abs ", " ld.abs", "ld abs", "ld.abs\x00",
		"LD.ABS", "Ld.abs", "ld.ind", "mod.k", "mod.x", "neg.k", "neg.a", "ja.k", "st.mem", "stx.mem", "20", "0x20",
		"ret.x", "tax\n", "\xff", "jne.k", "jset", strings.Repeat("ld.abs", 1000),
	} {
		if code, ok := insn.Code(name); ok || code != 0 {
			t.Errorf("Code(%q): %02x, %v", name, code, ok)
		}
	}
	// Each name with a byte less, or one more, is none: but for those that are other names.
	names := map[string]int{}
	for _, name := range insn.Codes() {
		names[name] = 1
	}
	for name := range names {
		for _, near := range []string{name[1:], name[:len(name)-1], name + "x", name + ".", strings.ToUpper(name)} {
			if _, ok := insn.Code(near); ok != (names[near] == 1) {
				t.Errorf("Code(%q): %v", near, ok)
			}
		}
	}
}

// full has something in each field.
func full(code uint16) api.Insn {
	return api.Insn{Code: code, Jt: 0xA1, Jf: 0xB2, K: 0xC3D4E5F6}
}

func TestBareOfEachCode(t *testing.T) { // P2.3
	// What counts beside the code, as the chapter's table says it.
	counts := map[int]api.Insn{
		api.FormWord:  {K: 0xC3D4E5F6},
		api.FormNone:  {},
		api.FormK:     {K: 0xC3D4E5F6},
		api.FormMem:   {K: 0xC3D4E5F6},
		api.FormJump:  {K: 0xC3D4E5F6},
		api.FormTest:  {K: 0xC3D4E5F6, Jt: 0xA1, Jf: 0xB2},
		api.FormTestX: {Jt: 0xA1, Jf: 0xB2},
	}
	known := table(t)
	for i := range math.MaxUint16 + 1 {
		code := uint16(i)
		want := full(code)
		if e, ok := known[code]; ok {
			want = counts[e.form]
			want.Code = code
		}
		if got := insn.Bare(full(code)); got != want {
			t.Errorf("Bare of %02x: %+v, not %+v", code, got, want)
		}
		if got := insn.Bare(api.Insn{Code: code}); got != (api.Insn{Code: code}) {
			t.Errorf("Bare of %02x with noughts: %+v", code, got)
		}
	}
}

func TestBareOfBare(t *testing.T) { // P2.4
	for i := range math.MaxUint16 + 1 {
		once := insn.Bare(full(uint16(i)))
		if twice := insn.Bare(once); twice != once {
			t.Errorf("Bare of Bare of %02x: %+v", i, twice)
		}
	}
}

func TestNamesAndCodesLeadToOneAnother(t *testing.T) { // P2.4
	n := 0
	for code, name := range insn.Codes() {
		n++
		there, ok := insn.Name(code)
		back, known := insn.Code(name)
		if !ok || !known || there != name || back != code || insn.Form(code) < 0 {
			t.Errorf("%02x %q: %q, %02x", code, name, there, back)
		}
	}
	if n != 41 {
		t.Errorf("Codes tells %d", n)
	}
}

func TestExamples(t *testing.T) { // the chapter's
	if name, ok := insn.Name(0x20); !ok || name != "ld.abs" {
		t.Error(name, ok)
	}
	if code, ok := insn.Code("xor.x"); !ok || code != 0xac {
		t.Error(code, ok)
	}
	if name, ok := insn.Name(0x94); ok || name != "" {
		t.Error(name, ok)
	}
	if insn.Form(0x1d) != api.FormTestX || insn.Form(0x94) != -1 {
		t.Error(insn.Form(0x1d), insn.Form(0x94))
	}
	if x := insn.Bare(api.Insn{Code: 0x16, K: 7}); x != (api.Insn{Code: 0x16}) {
		t.Error(x)
	}
	if x := insn.Bare(api.Insn{Code: 0x94, Jt: 1, Jf: 2, K: 7}); x != (api.Insn{Code: 0x94, Jt: 1, Jf: 2, K: 7}) {
		t.Error(x)
	}
}
