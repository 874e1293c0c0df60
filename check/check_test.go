package check_test

import (
	"math"
	"math/big"
	"slices"
	"strconv"
	"strings"
	"testing"

	"wicketgate/api"
	"wicketgate/check"
)

// The codes that a filter may have, by what the chapter asks of an instruction.
const (
	codesFree  = "80 81 16 84 07 87 06 00 01 04 14 24 44 54 a4 0c 1c 2c 3c 4c 5c 6c 7c ac"
	codesLoad  = "20"
	codesZero  = "34"
	codesShift = "64 74"
	codesMem   = "60 61 02 03"
	codesJump  = "05"
	codesTest  = "15 25 35 45 1d 2d 3d 4d"
)

// among answers the codes of a row of hexadecimal ones.
func among(t *testing.T, row string) []uint16 {
	t.Helper()
	var l []uint16
	for _, digits := range strings.Fields(row) {
		code, err := strconv.ParseUint(digits, 16, 16)
		if err != nil {
			t.Fatal(err)
		}
		l = append(l, uint16(code))
	}
	return l
}

// asked answers what the chapter asks of each code: the error that it names, OK where it names none.
func asked(t *testing.T) map[uint16]api.Errno {
	t.Helper()
	all := map[uint16]api.Errno{}
	for row, e := range map[string]api.Errno{
		codesFree: api.OK, codesLoad: api.ErrLoad, codesZero: api.ErrZero, codesShift: api.ErrShift,
		codesMem: api.ErrMem, codesJump: api.ErrJump, codesTest: api.ErrJump,
	} {
		for _, code := range among(t, row) {
			all[code] = e
		}
	}
	if len(all) != 41 {
		t.Fatal(len(all))
	}
	return all
}

// below says whether k is below n - 1 - i, in numbers that do not go round.
func below(k uint32, i, n int) bool {
	room := new(big.Int).Sub(big.NewInt(int64(n)), big.NewInt(1))
	room.Sub(room, big.NewInt(int64(i)))
	return big.NewInt(int64(k)).Cmp(room) < 0
}

// stands answers One's error as the chapter's words tell it.
func stands(all map[uint16]api.Errno, x api.Insn, i, n int) api.Errno {
	e, known := all[x.Code]
	if !known {
		return api.ErrCode
	}
	fine := true
	switch e {
	case api.ErrLoad:
		fine = slices.Contains([]uint32{0, 4, 8, 12, 16, 20, 24, 28, 32, 36, 40, 44, 48, 52, 56, 60}, x.K)
	case api.ErrZero:
		fine = x.K != 0
	case api.ErrShift:
		fine = x.K <= 31
	case api.ErrMem:
		fine = x.K <= 15
	case api.ErrJump:
		if x.Code == 0x05 {
			fine = below(x.K, i, n)
		} else {
			fine = below(uint32(x.Jt), i, n) && below(uint32(x.Jf), i, n)
		}
	}
	if fine {
		return api.OK
	}
	return e
}

// edges answers numbers beside which something changes, or a narrower number would go round.
func edges() []uint32 {
	var l []uint32
	for k := range uint32(130) {
		l = append(l, k)
	}
	for _, k := range []uint32{1 << 7, 1 << 8, 1 << 15, 1 << 16, 1 << 24, 1 << 31, 0} {
		l = append(l, k-5, k-4, k-2, k-1, k, k+1, k+4, k+16, k+32, k+60, k+64)
	}
	return l
}

// spans answers places and lengths: ordinary ones, those beside the edges, and those whose difference goes over.
func spans() [][2]int {
	var l [][2]int
	for i := -3; i < 70; i++ {
		for _, n := range []int{i - 2, i, i + 1, i + 2, i + 3, i + 17, i + 256, i + 257, i + 258, 0, 1, 64} {
			l = append(l, [2]int{i, n})
		}
	}
	far := []int{math.MinInt, math.MinInt + 1, math.MinInt32, -1 << 32, -1, 0, 1, 1 << 31, 1 << 32, 1<<32 + 1, math.MaxInt - 256, math.MaxInt - 1, math.MaxInt}
	for _, i := range far {
		for _, n := range far {
			l = append(l, [2]int{i, n})
		}
	}
	return l
}

func TestOneOfEachCode(t *testing.T) { // P4.1
	all := asked(t)
	for i := range math.MaxUint16 + 1 {
		code := uint16(i)
		for _, x := range []api.Insn{
			{Code: code}, {Code: code, K: 1}, {Code: code, K: 32}, {Code: code, Jt: 3, Jf: 3, K: 64}, {Code: code, Jt: 255, Jf: 255, K: math.MaxUint32},
		} {
			for _, at := range [][2]int{{0, 0}, {0, 1}, {0, 2}, {3, 5}, {5, 3}, {-1, 64}} {
				if e := check.One(x, at[0], at[1]); e != stands(all, x, at[0], at[1]) {
					t.Fatalf("One(%+v, %v): %d", x, at, e)
				}
			}
		}
	}
}

func TestOneOfEachNumber(t *testing.T) { // P4.1
	all := asked(t)
	for code := range all {
		for _, k := range edges() {
			for _, x := range []api.Insn{{Code: code, K: k}, {Code: code, K: k, Jt: 200, Jf: 200}} {
				for _, at := range [][2]int{{0, 64}, {0, 1 << 20}, {63, 64}, {7, 9}} {
					if e := check.One(x, at[0], at[1]); e != stands(all, x, at[0], at[1]) {
						t.Fatalf("One(%+v, %v): %d", x, at, e)
					}
				}
			}
		}
	}
}

func TestOneOfEachJump(t *testing.T) { // P4.1
	all := asked(t)
	for _, at := range spans() {
		for _, k := range edges() {
			x := api.Insn{Code: 0x05, K: k, Jt: 255, Jf: 255}
			if e := check.One(x, at[0], at[1]); e != stands(all, x, at[0], at[1]) {
				t.Fatalf("One(%+v, %v): %d", x, at, e)
			}
		}
		for _, code := range among(t, codesTest) {
			for _, to := range [][2]uint8{{0, 0}, {0, 1}, {1, 0}, {1, 1}, {0, 16}, {16, 0}, {15, 16}, {0, 255}, {255, 0}, {254, 255}, {255, 255}} {
				x := api.Insn{Code: code, K: math.MaxUint32, Jt: to[0], Jf: to[1]}
				if e := check.One(x, at[0], at[1]); e != stands(all, x, at[0], at[1]) {
					t.Fatalf("One(%+v, %v): %d", x, at, e)
				}
			}
		}
	}
}

var (
	ret  = api.Insn{Code: 0x06, K: 0x7fff0000}
	retA = api.Insn{Code: 0x16}
	load = api.Insn{Code: 0x20, K: 4}
	imm  = api.Insn{Code: 0x00, K: 7}
	bad  = api.Insn{Code: 0x94}
)

func ja(k uint32) api.Insn { return api.Insn{Code: 0x05, K: k} }

func jeq(jt, jf uint8) api.Insn { return api.Insn{Code: 0x15, Jt: jt, Jf: jf, K: 9} }

// long answers n instructions that go on one by one, and return.
func long(n int) []api.Insn {
	return append(slices.Repeat([]api.Insn{imm}, n-1), ret)
}

func TestCheckWrittenOut(t *testing.T) { // P4.1
	for _, q := range []struct {
		l    []api.Insn
		at   int
		want api.Errno
	}{
		{[]api.Insn{ret}, 0, api.OK},
		{[]api.Insn{retA}, 0, api.OK},
		{[]api.Insn{load, jeq(0, 1), ret, retA}, 0, api.OK},
		// All places are asked, those that nothing leads to as well.
		{[]api.Insn{ret, bad, ret}, 1, api.ErrCode},
		{[]api.Insn{ret, {Code: 0x34}, ret}, 1, api.ErrZero},
		{[]api.Insn{ret, ret, ja(0)}, 2, api.ErrJump},
		{[]api.Insn{ja(1), {Code: 0x02, K: 16}, ret}, 1, api.ErrMem},
		// The first one counts, whichever its error is.
		{[]api.Insn{imm, {Code: 0x20, K: 61}, bad, {Code: 0x74, K: 32}}, 1, api.ErrLoad},
		{[]api.Insn{imm, {Code: 0x64, K: 33}, {Code: 0x20, K: 64}, bad}, 1, api.ErrShift},
		{[]api.Insn{bad, {Code: 0x34}, ret}, 0, api.ErrCode},
		// An instruction that may not stand goes ahead of a last one that does not return.
		{[]api.Insn{imm, imm, {Code: 0x34}, imm}, 2, api.ErrZero},
		{[]api.Insn{imm, imm, bad}, 2, api.ErrCode},
		{[]api.Insn{ret, jeq(0, 0)}, 1, api.ErrJump},
		{[]api.Insn{ret, imm}, 1, api.ErrLast},
		{[]api.Insn{ret, retA, load}, 2, api.ErrLast},
		{[]api.Insn{imm}, 0, api.ErrLast},
		// A jump to the last place, and one to behind it.
		{[]api.Insn{ja(1), imm, ret}, 0, api.OK},
		{[]api.Insn{ja(2), imm, ret}, 0, api.ErrJump},
		{[]api.Insn{imm, jeq(1, 1), imm, ret}, 0, api.OK},
		{[]api.Insn{imm, jeq(2, 0), imm, ret}, 1, api.ErrJump},
		{[]api.Insn{imm, jeq(0, 2), imm, ret}, 1, api.ErrJump},
	} {
		if at, e := check.Check(q.l); at != q.at || e != q.want {
			t.Errorf("Check(%+v): %d, %d, not %d, %d", q.l, at, e, q.at, q.want)
		}
	}
}

func TestCheckOfEachLength(t *testing.T) { // P4.1
	for _, l := range [][]api.Insn{nil, {}, long(3)[:0]} {
		if at, e := check.Check(l); at != 0 || e != api.ErrSize {
			t.Errorf("Check of nothing: %d, %d", at, e)
		}
	}
	for n := 1; n < 300; n++ {
		want := api.OK
		if n > 64 {
			want = api.ErrSize
		}
		if at, e := check.Check(long(n)); at != 0 || e != want {
			t.Errorf("Check of %d: %d, %d", n, at, e)
		}
		// Too long goes ahead of all else.
		l := long(n)
		l[n-1] = imm
		at, e := check.Check(l)
		if n > 64 && (at != 0 || e != api.ErrSize) || n <= 64 && (at != n-1 || e != api.ErrLast) {
			t.Errorf("Check of %d without a return: %d, %d", n, at, e)
		}
	}
}

func TestCheckIsOneOfEach(t *testing.T) { // P4.1
	all := asked(t)
	wrong := []api.Insn{bad, {Code: 0x20, K: 3}, {Code: 0x34}, {Code: 0x64, K: 32}, {Code: 0x60, K: 16}, ja(200), jeq(63, 0), {Code: 0x4d, Jf: 63}}
	for n := 1; n <= 64; n++ {
		for place := range n {
			for _, x := range wrong {
				l := long(n)
				l[place] = x
				// One more behind it, and the last one that does not return: the first one counts.
				l[n-1] = []api.Insn{ret, x, imm}[(n+place)%3]
				wantAt, want := 0, api.OK
				for i := n - 1; i >= 0; i-- {
					if e := stands(all, l[i], i, n); e != api.OK {
						wantAt, want = i, e
					}
				}
				if want == api.OK && l[n-1] == imm {
					wantAt, want = n-1, api.ErrLast
				}
				if at, e := check.Check(l); at != wantAt || e != want {
					t.Fatalf("Check of %d with %+v at %d: %d, %d, not %d, %d", n, x, place, at, e, wantAt, want)
				}
			}
		}
	}
}

func TestExamples(t *testing.T) { // the chapter's
	first := []api.Insn{jeq(0, 1), ret, retA}
	for _, q := range []struct {
		l    []api.Insn
		at   int
		want api.Errno
	}{
		{[]api.Insn{{Code: 0x06}}, 0, api.OK},
		{nil, 0, api.ErrSize},
		{[]api.Insn{{}}, 0, api.ErrLast},
		{[]api.Insn{{Code: 0x20, K: 64}, ret}, 0, api.ErrLoad},
		{[]api.Insn{{Code: 0x20, K: 2}, ret}, 0, api.ErrLoad},
		{[]api.Insn{{Code: 0x34}, ret}, 0, api.ErrZero},
		{first, 0, api.OK},
		{[]api.Insn{jeq(0, 2), ret, retA}, 0, api.ErrJump},
		{[]api.Insn{ja(1<<32 - 1), ret}, 0, api.ErrJump},
		{[]api.Insn{{Code: 0x94}, ret}, 0, api.ErrCode},
	} {
		if at, e := check.Check(q.l); at != q.at || e != q.want {
			t.Errorf("Check(%+v): %d, %d", q.l, at, e)
		}
	}
	if l := check.Next(first[0], 0); !slices.Equal(l, []int{1, 2}) {
		t.Error(l)
	}
	second := []api.Insn{ja(1), retA, ret}
	if l, e := check.Reach(second); e != api.OK || !slices.Equal(l, []int{0, 2}) {
		t.Error(l, e)
	}
	if n, e := check.Most(second); e != api.OK || n != 2 {
		t.Error(n, e)
	}
}
