package action_test

import (
	"iter"
	"slices"
	"testing"

	"wicketgate/action"
	"wicketgate/api"
)

// verdict answers what a row of words says as the chapter's words tell it: action by action, the most restrictive first, place by place.
func verdict(l []uint32) (api.Verdict, int) {
	for _, r := range chapter {
		for place, word := range l {
			if act, _ := meaning(word); act == r.action {
				return api.Verdict{Action: act, Data: uint16(word % 0x10000)}, place
			}
		}
	}
	return api.Verdict{Action: api.Allow}, -1
}

// alphabet answers a word of each action, a second one of some, and unknown ones.
func alphabet() []uint32 {
	return []uint32{
		0x80000001, 0x00000002, 0x00030003, 0x00050004, 0x7fc00005, 0x7ff00006, 0x7ffc0007, 0x7fff0008,
		0x80000009, 0x0005000a, 0x7fff0000, 0x0001000b, 0xffff0000,
	}
}

// eachRow hands all rows of up to n words of the alphabet to tell.
func eachRow(n int, tell func(l []uint32)) {
	var grow func(l []uint32)
	grow = func(l []uint32) {
		tell(l)
		if len(l) == n {
			return
		}
		for _, word := range alphabet() {
			grow(append(slices.Clone(l), word))
		}
	}
	grow(nil)
}

// mixed answers a row of n words, another one for each seed; those of a seed that is even are known.
func mixed(n int, seed uint64) []uint32 {
	x := seed
	next := func(below uint64) uint32 {
		x = x*6364136223846793005 + 1442695040888963407
		return uint32(x >> 33 % below)
	}
	l := make([]uint32, n)
	// Rows differ in what is their most restrictive action.
	from := next(8)
	for i := range l {
		l[i] = chapter[from+next(uint64(8-from))].half*0x10000 + next(0x10000)
		if seed%2 == 1 && next(50) == 0 {
			l[i] = next(1 << 31)
		}
	}
	return l
}

func rows() [][]uint32 {
	var all [][]uint32
	for n := range 40 {
		for seed := range uint64(40) {
			all = append(all, mixed(n, 100*seed+uint64(n)))
		}
	}
	for seed := range uint64(8) {
		all = append(all, mixed(5000, seed))
	}
	return all
}

// told tells the words of l, and counts the goings through, the words that were taken, and the ends that were reached.
type told struct {
	begun, taken, ended int
}

func (n *told) tell(l []uint32) iter.Seq[uint32] {
	return func(yield func(uint32) bool) {
		n.begun++
		for _, word := range l {
			n.taken++
			if !yield(word) {
				return
			}
		}
		n.ended++
	}
}

// asked holds Combine and CombineSeq of a row against the chapter's words, and CombineSeq to one going through, to the end.
func asked(t *testing.T, l []uint32) {
	t.Helper()
	want, at := verdict(l)
	if v, place := action.Combine(l); v != want || place != at {
		t.Fatalf("Combine(%08x): %+v at %d, not %+v at %d", l, v, place, want, at)
	}
	n := told{}
	if v, place := action.CombineSeq(n.tell(l)); v != want || place != at {
		t.Fatalf("CombineSeq of %08x: %+v at %d, not %+v at %d", l, v, place, want, at)
	}
	if n != (told{1, len(l), 1}) {
		t.Fatalf("CombineSeq of %08x: %+v", l, n)
	}
}

func TestCombineOfAllShortRows(t *testing.T) { // P6.3
	eachRow(4, func(l []uint32) { asked(t, l) })
}

func TestCombineOfMixedRows(t *testing.T) { // P6.3
	met := map[int]int{}
	for _, l := range rows() {
		asked(t, l)
		v, _ := action.Combine(l)
		met[v.Action]++
	}
	for _, r := range chapter {
		if met[r.action] < 50 {
			t.Errorf("%s was met %d times only", r.name, met[r.action])
		}
	}
}

func TestCombineWrittenOut(t *testing.T) { // P6.3
	for _, q := range []struct {
		l     []uint32
		want  api.Verdict
		place int
	}{
		{nil, api.Verdict{Action: api.Allow}, -1},
		{[]uint32{}, api.Verdict{Action: api.Allow}, -1},
		{[]uint32{0x7fff0000}, api.Verdict{Action: api.Allow}, 0},
		{[]uint32{0x7fff0007, 0x7fff0000}, api.Verdict{Action: api.Allow, Data: 7}, 0},
		{[]uint32{0x7fff0000, 0x7fff0007}, api.Verdict{Action: api.Allow}, 0},
		{[]uint32{0}, api.Verdict{Action: api.KillThread}, 0},
		{[]uint32{0x00010007}, api.Verdict{Action: api.KillProcess, Data: 7}, 0},
		{[]uint32{0x00000001, 0x80000002}, api.Verdict{Action: api.KillProcess, Data: 2}, 1},
		{[]uint32{0x80000002, 0x00000001}, api.Verdict{Action: api.KillProcess, Data: 2}, 0},
		{[]uint32{0x00010007, 0x80000002}, api.Verdict{Action: api.KillProcess, Data: 7}, 0},
		{[]uint32{0x80000002, 0x00010007}, api.Verdict{Action: api.KillProcess, Data: 2}, 0},
		{[]uint32{0x00050001, 0x00050002}, api.Verdict{Action: api.Refuse, Data: 1}, 0},
		{[]uint32{0x00050002, 0x00050001}, api.Verdict{Action: api.Refuse, Data: 2}, 0},
		{[]uint32{0x7fff0000, 0x7ffc0001, 0x7ff00002, 0x7fc00003, 0x00050004, 0x00030005, 0x00000006, 0x80000007}, api.Verdict{Action: api.KillProcess, Data: 7}, 7},
		{[]uint32{0x7fff0000, 0x7ffc0001, 0x7ff00002, 0x7fc00003, 0x00050004, 0x00030005, 0x00000006}, api.Verdict{Action: api.KillThread, Data: 6}, 6},
		{[]uint32{0x00030005, 0x00050004, 0x7fc00003}, api.Verdict{Action: api.Trap, Data: 5}, 0},
		{[]uint32{0x7fff0000, 0x00030001, 0x7ffc0000, 0x00030002, 0x00050003}, api.Verdict{Action: api.Trap, Data: 1}, 1},
	} {
		if v, place := action.Combine(q.l); v != q.want || place != q.place {
			t.Errorf("Combine(%08x): %+v at %d", q.l, v, place)
		}
		if v, place := action.CombineSeq(slices.Values(q.l)); v != q.want || place != q.place {
			t.Errorf("CombineSeq of %08x: %+v at %d", q.l, v, place)
		}
	}
}

func TestCombineFarBehind(t *testing.T) { // P6.3: no place is too far
	l := slices.Repeat([]uint32{0x7fff0001}, 1<<17)
	for _, at := range []int{0, 1, 255, 256, 1<<16 - 1, 1 << 16, 1<<17 - 1} {
		l[at] = 0x7ffc0002
		if v, place := action.Combine(l); v != (api.Verdict{Action: api.Log, Data: 2}) || place != at {
			t.Errorf("at %d: %+v at %d", at, v, place)
		}
		l[at] = 0x7fff0001
	}
}

func TestCombineSeqThatTellsNoList(t *testing.T) { // P6.3, R1
	empty := api.Verdict{Action: api.Allow}
	if v, place := action.CombineSeq(nil); v != empty || place != -1 {
		t.Errorf("nil: %+v at %d", v, place)
	}
	if v, place := action.CombineSeq(func(func(uint32) bool) {}); v != empty || place != -1 {
		t.Errorf("one that tells nothing: %+v at %d", v, place)
	}
	// One that panics has told what it told till then.
	for n := range 4 {
		l := []uint32{0x7fff0001, 0x00050002, 0x00030003}[:n]
		want, at := verdict(l)
		v, place := action.CombineSeq(func(yield func(uint32) bool) {
			for _, word := range l {
				yield(word)
			}
			panic("the caller's")
		})
		if v != want || place != at {
			t.Errorf("one that panics behind %08x: %+v at %d", l, v, place)
		}
	}
	// One that can be gone through but once.
	left := []uint32{0x7fff0000, 0x00050001, 0x80000000}
	v, place := action.CombineSeq(func(yield func(uint32) bool) {
		for len(left) > 0 {
			word := left[0]
			left = left[1:]
			if !yield(word) {
				return
			}
		}
	})
	if v != (api.Verdict{Action: api.KillProcess}) || place != 2 || len(left) != 0 {
		t.Errorf("one that can be gone through but once: %+v at %d, left %08x", v, place, left)
	}
}

func TestNoLessRestrictive(t *testing.T) { // P6.4
	for _, l := range rows() {
		whole, _ := action.Combine(l)
		for i, word := range l {
			if whole.Action > action.Split(word).Action {
				t.Fatalf("%08x: %+v, and %08x is more restrictive", l, whole, word)
			}
			if i > 100 {
				break
			}
		}
		for first := range min(len(l)+1, 100) {
			if rest, _ := action.Combine(l[first:]); whole.Action > rest.Action {
				t.Fatalf("%08x: %+v, and without the first %d %+v", l, whole, first, rest)
			}
		}
	}
}

func TestOneMoreAhead(t *testing.T) { // P6.4
	eachRow(2, func(l []uint32) {
		was, at := action.Combine(l)
		for _, word := range alphabet() {
			ahead := action.Split(word)
			is, place := action.Combine(append([]uint32{word}, l...))
			want, there := was, at+1
			if at < 0 || ahead.Action <= was.Action {
				want, there = ahead, 0
			}
			if is != want || place != there {
				t.Fatalf("%08x ahead of %08x: %+v at %d", word, l, is, place)
			}
		}
	})
}

func TestWhatIsHandedInStays(t *testing.T) { // R3, R5
	for _, l := range rows() {
		memory := append(slices.Clone(l), 0x80000000, 0)
		before := slices.Clone(memory)
		handed := memory[:len(l)]
		v, place := action.Combine(handed)
		if !slices.Equal(memory, before) {
			t.Fatalf("%08x has become %08x", before, memory)
		}
		if again, there := action.Combine(handed); again != v || there != place {
			t.Fatalf("%08x: %+v, %+v", l, v, again)
		}
		// What stands behind the end does not count.
		if want, at := verdict(l); v != want || place != at {
			t.Fatalf("%08x: %+v at %d", l, v, place)
		}
	}
}
