package check_test

import (
	"math"
	"slices"
	"testing"

	"wicketgate/api"
	"wicketgate/check"
)

// comes answers what comes next as the chapter's words tell it.
func comes(all map[uint16]api.Errno, x api.Insn, i int) []int {
	e, known := all[x.Code]
	switch {
	case !known || i < 0 || i > 255 || x.Code == 0x06 || x.Code == 0x16:
		return nil
	case e != api.ErrJump:
		return []int{i + 1}
	case x.Code == 0x05 && x.K > 255:
		return nil
	case x.Code == 0x05:
		return []int{i + 1 + int(x.K)}
	}
	l := []int{i + 1 + int(x.Jt), i + 1 + int(x.Jf)}
	slices.Sort(l)
	return slices.Compact(l)
}

func TestNextOfEachCode(t *testing.T) { // P4.2
	all := asked(t)
	for i := range math.MaxUint16 + 1 {
		code := uint16(i)
		// That an instruction may not stand there is not asked.
		for _, x := range []api.Insn{{Code: code}, {Code: code, K: 40, Jt: 5, Jf: 2}, {Code: code, K: math.MaxUint32, Jt: 255, Jf: 255}} {
			for _, at := range []int{-1, 0, 7, 255, 256} {
				if l := check.Next(x, at); !slices.Equal(l, comes(all, x, at)) {
					t.Fatalf("Next(%+v, %d): %v", x, at, l)
				}
			}
		}
	}
}

func TestNextOfEachPlace(t *testing.T) { // P4.2
	all := asked(t)
	places := []int{math.MinInt, math.MinInt + 1, math.MinInt32, -256, -2, 1 << 16, 1 << 31, 1 << 32, 1<<32 + 1, math.MaxInt - 1, math.MaxInt}
	for at := -1; at < 520; at++ {
		places = append(places, at)
	}
	for code := range all {
		for _, x := range []api.Insn{{Code: code}, {Code: code, K: 1, Jt: 0, Jf: 1}, {Code: code, K: 255, Jt: 9, Jf: 3}} {
			for _, at := range places {
				if l := check.Next(x, at); !slices.Equal(l, comes(all, x, at)) {
					t.Fatalf("Next(%+v, %d): %v", x, at, l)
				}
			}
		}
	}
}

func TestNextOfEachJump(t *testing.T) { // P4.2
	all := asked(t)
	for _, k := range append(edges(), 253, 254, 255, 256, 257, 300) {
		for _, at := range []int{0, 1, 100, 255} {
			if l := check.Next(ja(k), at); !slices.Equal(l, comes(all, ja(k), at)) {
				t.Errorf("Next of ja %d, at %d: %v", k, at, l)
			}
		}
	}
	for _, code := range among(t, codesTest) {
		for jt := range 256 {
			for jf := range 256 {
				x := api.Insn{Code: code, Jt: uint8(jt), Jf: uint8(jf), K: 1000}
				if l := check.Next(x, 3); !slices.Equal(l, comes(all, x, 3)) {
					t.Fatalf("Next(%+v, 3): %v", x, l)
				}
			}
		}
	}
}

func TestNextWrittenOut(t *testing.T) { // P4.2
	for _, q := range []struct {
		x    api.Insn
		i    int
		want []int
	}{
		{ret, 0, nil}, {retA, 5, nil}, {imm, 0, []int{1}}, {imm, 255, []int{256}}, {imm, 256, nil}, {imm, -1, nil},
		{ja(0), 0, []int{1}}, {ja(255), 0, []int{256}}, {ja(255), 255, []int{511}}, {ja(256), 0, nil}, {ja(1 << 31), 0, nil}, {ja(1), 256, nil},
		{jeq(0, 1), 0, []int{1, 2}}, {jeq(1, 0), 0, []int{1, 2}}, {jeq(4, 4), 2, []int{7}}, {jeq(255, 0), 255, []int{256, 511}}, {jeq(0, 1), 256, nil},
		{api.Insn{Code: 0x34}, 3, []int{4}}, {api.Insn{Code: 0x1d, Jt: 9, Jf: 2, K: math.MaxUint32}, 1, []int{4, 11}},
		{bad, 0, nil}, {api.Insn{Code: 0x0105}, 0, nil},
	} {
		if l := check.Next(q.x, q.i); !slices.Equal(l, q.want) {
			t.Errorf("Next(%+v, %d): %v, not %v", q.x, q.i, l, q.want)
		}
	}
}

// paths hands each row of steps of l, from a place on, to tell.
func paths(all map[uint16]api.Errno, l []api.Insn, row []int, tell func([]int)) {
	i := row[len(row)-1]
	next := comes(all, l[i], i)
	if len(next) == 0 {
		tell(row)
	}
	for _, to := range next {
		paths(all, l, append(slices.Clone(row), to), tell)
	}
}

// byPaths answers the places that rows of steps meet, rising, and how many steps the longest one has.
func byPaths(all map[uint16]api.Errno, l []api.Insn) (places []int, most int) {
	there := map[int]int{}
	paths(all, l, []int{0}, func(row []int) {
		most = max(most, len(row))
		for _, i := range row {
			there[i] = 1
		}
	})
	for i := range l {
		if there[i] == 1 {
			places = append(places, i)
		}
	}
	return places, most
}

// every hands each program of n instructions of an alphabet to tell.
func every(n int, alphabet []api.Insn, tell func([]api.Insn)) {
	l := make([]api.Insn, n)
	var fill func(i int)
	fill = func(i int) {
		if i == n {
			tell(l)
			return
		}
		for _, x := range alphabet {
			l[i] = x
			fill(i + 1)
		}
	}
	fill(0)
}

func TestReachAndMostOfAllSmallPrograms(t *testing.T) { // P4.2, P4.3, P4.4
	all := asked(t)
	alphabet := []api.Insn{ret, retA, imm, bad, ja(0), ja(1), ja(2)}
	for jt := range uint8(3) {
		for jf := range uint8(4) {
			alphabet = append(alphabet, jeq(jt, jf))
		}
	}
	fine, refused := 0, 0
	for n := 1; n <= 4; n++ {
		every(n, alphabet, func(l []api.Insn) {
			_, want := check.Check(l)
			places, e := check.Reach(l)
			most, again := check.Most(l)
			if e != want || again != want {
				t.Fatalf("%+v: Reach %d, Most %d, Check %d", l, e, again, want)
			}
			if want != api.OK {
				refused++
				if len(places) != 0 || most != 0 {
					t.Fatalf("%+v: beside an error %v, %d", l, places, most)
				}
				return
			}
			fine++
			wantPlaces, wantMost := byPaths(all, l)
			if !slices.Equal(places, wantPlaces) || most != wantMost {
				t.Fatalf("%+v: %v, %d, not %v, %d", l, places, most, wantPlaces, wantMost)
			}
		})
	}
	if fine < 500 || refused < 10000 {
		t.Errorf("only %d may be, %d may not", fine, refused)
	}
}

// mixed answers a program of n instructions that may be, another for each seed.
func mixed(t *testing.T, n int, seed uint64) []api.Insn {
	t.Helper()
	next := func(below int) int {
		seed = seed*6364136223846793005 + 1442695040888963407
		return int(seed >> 33 % uint64(below))
	}
	tests := among(t, codesTest)
	l := make([]api.Insn, n)
	for i := range l {
		room := n - 1 - i
		switch kind := next(8); {
		case room == 0 || kind == 0:
			l[i] = []api.Insn{ret, retA}[next(2)]
		case kind < 5:
			l[i] = api.Insn{Code: tests[next(len(tests))], Jt: uint8(next(room)), Jf: uint8(next(room)), K: uint32(next(99))}
		case kind == 5:
			l[i] = ja(uint32(next(room)))
		default:
			l[i] = []api.Insn{imm, load, {Code: 0x02, K: 15}, {Code: 0x34, K: 3}, {Code: 0x84}}[next(5)]
		}
	}
	return l
}

// byRounds answers the same as byPaths, of programs with too many paths: round by round, till nothing more comes to it.
func byRounds(all map[uint16]api.Errno, l []api.Insn) (places []int, most int) {
	now := []int{0}
	there := make([]bool, len(l))
	for len(now) > 0 {
		most++
		var then []int
		for _, i := range now {
			there[i] = true
			then = append(then, comes(all, l[i], i)...)
		}
		slices.Sort(then)
		now = slices.Compact(then)
	}
	for i, is := range there {
		if is {
			places = append(places, i)
		}
	}
	return places, most
}

func TestReachAndMostOfMixedPrograms(t *testing.T) { // P4.2, P4.3
	all := asked(t)
	for n := 1; n <= 64; n++ {
		for seed := range uint64(40) {
			l := mixed(t, n, seed*1000+uint64(n))
			if at, e := check.Check(l); at != 0 || e != api.OK {
				t.Fatalf("%+v: %d, %d", l, at, e)
			}
			wantPlaces, wantMost := byRounds(all, l)
			if places, e := check.Reach(l); e != api.OK || !slices.Equal(places, wantPlaces) {
				t.Fatalf("%+v: reached %v, %d, not %v", l, places, e, wantPlaces)
			}
			if most, e := check.Most(l); e != api.OK || most != wantMost {
				t.Fatalf("%+v: most %d, %d, not %d", l, most, e, wantMost)
			}
		}
	}
}

func TestMostWrittenOut(t *testing.T) { // P4.3
	for _, q := range []struct {
		l    []api.Insn
		most int
	}{
		{[]api.Insn{ret}, 1},
		{[]api.Insn{ret, imm, imm, ret}, 1},
		{long(64), 64},
		// The row that goes further is the shorter one; the one that is told first is the longer one; and the other way.
		{[]api.Insn{jeq(0, 3), imm, imm, ret, ret}, 4},
		{[]api.Insn{jeq(0, 1), ret, imm, imm, ret}, 4},
		// What comes together again goes by the longer row.
		{[]api.Insn{jeq(0, 2), imm, imm, imm, ret}, 5},
		{[]api.Insn{jeq(1, 0), ja(0), jeq(2, 0), imm, imm, retA}, 6},
		{[]api.Insn{ja(61), imm, imm, ret}, 0},
	} {
		want := api.OK
		if q.most == 0 {
			want = api.ErrJump
		}
		if n, e := check.Most(q.l); n != q.most || e != want {
			t.Errorf("Most(%+v): %d, %d, not %d", q.l, n, e, q.most)
		}
	}
}

func TestErrorsOfReachAndMost(t *testing.T) { // P4.2, P4.3, R2
	for _, q := range []struct {
		l    []api.Insn
		want api.Errno
	}{
		{nil, api.ErrSize}, {[]api.Insn{}, api.ErrSize}, {long(65), api.ErrSize}, {long(1000), api.ErrSize},
		{[]api.Insn{bad, ret}, api.ErrCode}, {[]api.Insn{{Code: 0x20, K: 64}, ret}, api.ErrLoad},
		{[]api.Insn{imm, {Code: 0x34}, ret}, api.ErrZero}, {[]api.Insn{{Code: 0x74, K: 99}, ret}, api.ErrShift},
		{[]api.Insn{ret, {Code: 0x03, K: 1 << 31}, ret}, api.ErrMem}, {[]api.Insn{ja(1), ret}, api.ErrJump},
		{[]api.Insn{ret, imm}, api.ErrLast},
	} {
		if l, e := check.Reach(q.l); e != q.want || len(l) != 0 {
			t.Errorf("Reach(%+v): %v, %d", q.l, l, e)
		}
		if n, e := check.Most(q.l); e != q.want || n != 0 {
			t.Errorf("Most(%+v): %d, %d", q.l, n, e)
		}
	}
}

func TestWhatFollows(t *testing.T) { // P4.4
	for n := 1; n <= 64; n++ {
		for seed := range uint64(20) {
			l := mixed(t, n, seed*77+uint64(n))
			for i, x := range l {
				for _, to := range check.Next(x, i) {
					if to <= i || to >= n {
						t.Fatalf("%+v: behind %d comes %d", l, i, to)
					}
				}
			}
			most, e := check.Most(l)
			if e != api.OK || most < 1 || most > n {
				t.Fatalf("%+v: most %d, %d", l, most, e)
			}
			longer := append([]api.Insn{imm}, l...)
			one, e := check.Most(longer)
			if n < 64 && (e != api.OK || one != most+1) || n == 64 && (e != api.ErrSize || one != 0) {
				t.Fatalf("%+v: with one more ahead %d, %d, not %d", l, one, e, most+1)
			}
			at, e := check.Check(l[1:])
			if want := api.OK; n > 1 && (at != 0 || e != want) || n == 1 && e != api.ErrSize {
				t.Fatalf("%+v: without the first one %d, %d", l, at, e)
			}
		}
	}
}

func TestWhatIsHandedInStays(t *testing.T) { // R3
	for _, l := range [][]api.Insn{long(1), long(64), long(65), {ja(1), ret, ret}, {bad}, mixed(t, 40, 3)} {
		memory := append(slices.Clone(l), bad, imm, ja(9))
		before := slices.Clone(memory)
		handed := memory[:len(l)]
		check.Check(handed)
		check.Reach(handed)
		check.Most(handed)
		if !slices.Equal(memory, before) {
			t.Errorf("%+v has become %+v", before, memory)
		}
	}
}

func TestAnswersAreNewMemory(t *testing.T) { // R3
	overwrite := func(l []int) {
		l = l[:cap(l)]
		for i := range l {
			l[i] = -77
		}
	}
	for _, x := range []api.Insn{imm, ja(3), jeq(1, 2), jeq(2, 2)} {
		one, other := check.Next(x, 5), check.Next(x, 5)
		want := slices.Clone(other)
		overwrite(one)
		if !slices.Equal(other, want) || !slices.Equal(check.Next(x, 5), want) {
			t.Errorf("two answers of Next share memory: %v", other)
		}
	}
	l := mixed(t, 30, 4)
	one, _ := check.Reach(l)
	other, _ := check.Reach(l)
	want := slices.Clone(other)
	overwrite(one)
	third, _ := check.Reach(l)
	if !slices.Equal(other, want) || !slices.Equal(third, want) {
		t.Errorf("two answers of Reach share memory: %v", other)
	}
}
