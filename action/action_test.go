package action_test

import (
	"math"
	"strconv"
	"strings"
	"testing"

	"wicketgate/action"
	"wicketgate/api"
)

// The chapter's table, row by row as it stands there.
var chapter = []struct {
	action int
	half   uint32
	name   string
}{
	{0, 0x8000, "kill.process"},
	{1, 0x0000, "kill.thread"},
	{2, 0x0003, "trap"},
	{3, 0x0005, "errno"},
	{4, 0x7fc0, "notify"},
	{5, 0x7ff0, "trace"},
	{6, 0x7ffc, "log"},
	{7, 0x7fff, "allow"},
}

// meaning answers a word's action as the chapter's table tells it, and whether the word is known.
func meaning(word uint32) (int, bool) {
	for _, r := range chapter {
		if r.half == word/0x10000 {
			return r.action, true
		}
	}
	return 0, false
}

// lows are low halves, ordinary ones and those at which something ends or that are high halves of some action.
func lows() []uint32 {
	return []uint32{0, 1, 2, 3, 5, 7, 38, 0xff, 0x100, 0x1234, 0x7fc0, 0x7ff0, 0x7ffc, 0x7fff, 0x8000, 0x8001, 0xfffe, 0xffff}
}

// far are numbers that are no actions.
func far() []int {
	l := []int{math.MinInt, math.MinInt + 1, math.MinInt32, -1 << 32, -256, -8, -7, -2, -1}
	for x := 8; x < 300; x++ {
		l = append(l, x)
	}
	l = append(l, 0x7fff, 0x8000, 0x7ffc, 1<<16, 1<<16+1, 1<<31, math.MaxInt, math.MaxInt-1)
	// What a narrower number would take for an action.
	for x := range 8 {
		l = append(l, 1<<32+x, 1<<16+x, math.MinInt+x, -1<<32+x)
	}
	return l
}

func TestActionsOfTheTable(t *testing.T) { // the chapter's words
	want := []int{api.KillProcess, api.KillThread, api.Trap, api.Refuse, api.Notify, api.Trace, api.Log, api.Allow}
	for i, r := range chapter {
		if r.action != i || want[i] != i {
			t.Errorf("%s is %d", r.name, want[i])
		}
	}
}

func TestSplitAndKnownOfEachHalf(t *testing.T) { // P6.1
	for half := range uint32(0x10000) {
		for _, low := range lows() {
			word := half*0x10000 + low
			act, known := meaning(word)
			if v := action.Split(word); v != (api.Verdict{Action: act, Data: uint16(low)}) {
				t.Errorf("Split(%08x): %+v", word, v)
			}
			if ok := action.Known(word); ok != known {
				t.Errorf("Known(%08x): %t", word, ok)
			}
		}
	}
}

func TestSplitWrittenOut(t *testing.T) { // P6.1
	for _, q := range []struct {
		word  uint32
		want  api.Verdict
		known bool
	}{
		{0x80000000, api.Verdict{Action: api.KillProcess}, true},
		{0x8000ffff, api.Verdict{Action: api.KillProcess, Data: 0xffff}, true},
		{0x00000000, api.Verdict{Action: api.KillThread}, true},
		{0x00000003, api.Verdict{Action: api.KillThread, Data: 3}, true},
		{0x00007fff, api.Verdict{Action: api.KillThread, Data: 0x7fff}, true},
		{0x00008000, api.Verdict{Action: api.KillThread, Data: 0x8000}, true},
		{0x00030009, api.Verdict{Action: api.Trap, Data: 9}, true},
		{0x00050001, api.Verdict{Action: api.Refuse, Data: 1}, true},
		{0x7fc00100, api.Verdict{Action: api.Notify, Data: 256}, true},
		{0x7ff08000, api.Verdict{Action: api.Trace, Data: 0x8000}, true},
		{0x7ffc0002, api.Verdict{Action: api.Log, Data: 2}, true},
		{0x7fff0000, api.Verdict{Action: api.Allow}, true},
		{0x7fffffff, api.Verdict{Action: api.Allow, Data: 0xffff}, true},
		// The words beside those of an action, and other ones, are unknown.
		{0x00010007, api.Verdict{Action: api.KillProcess, Data: 7}, false},
		{0x00020007, api.Verdict{Action: api.KillProcess, Data: 7}, false},
		{0x00040007, api.Verdict{Action: api.KillProcess, Data: 7}, false},
		{0x0006ffff, api.Verdict{Action: api.KillProcess, Data: 0xffff}, false},
		{0x7ffeffff, api.Verdict{Action: api.KillProcess, Data: 0xffff}, false},
		{0x80010000, api.Verdict{Action: api.KillProcess}, false},
		{0x80030001, api.Verdict{Action: api.KillProcess, Data: 1}, false},
		{0x80050001, api.Verdict{Action: api.KillProcess, Data: 1}, false},
		{0xffff0000, api.Verdict{Action: api.KillProcess}, false},
		{0xffffffff, api.Verdict{Action: api.KillProcess, Data: 0xffff}, false},
	} {
		if v, known := action.Split(q.word), action.Known(q.word); v != q.want || known != q.known {
			t.Errorf("%08x: %+v, %t", q.word, v, known)
		}
	}
}

func TestJoin(t *testing.T) { // P6.1, P6.4: Split of Join is the verdict
	for _, r := range chapter {
		for low := range uint32(0x10000) {
			v := api.Verdict{Action: r.action, Data: uint16(low)}
			word, e := action.Join(v)
			if word != r.half*0x10000+low || e != api.OK {
				t.Fatalf("Join(%+v): %08x, %d", v, word, e)
			}
			if back := action.Split(word); back != v || !action.Known(word) {
				t.Fatalf("Split of Join(%+v): %+v", v, back)
			}
		}
	}
}

func TestJoinOfNoAction(t *testing.T) { // P6.1, R2
	for _, act := range far() {
		for _, low := range lows() {
			if word, e := action.Join(api.Verdict{Action: act, Data: uint16(low)}); word != 0 || e != api.ErrVerdict {
				t.Errorf("Join(%d, %d): %08x, %d", act, low, word, e)
			}
		}
	}
}

func TestJoinOfSplit(t *testing.T) { // P6.4
	for half := range uint32(0x10000) {
		for _, low := range lows() {
			word := half*0x10000 + low
			back, e := action.Join(action.Split(word))
			if _, known := meaning(word); !known {
				// Of an unknown word there is left what it is taken for.
				if back != 0x80000000+low || e != api.OK {
					t.Errorf("Join of Split(%08x): %08x, %d", word, back, e)
				}
				continue
			}
			if back != word || e != api.OK {
				t.Errorf("Join of Split(%08x): %08x, %d", word, back, e)
			}
		}
	}
}

func TestNameAndAction(t *testing.T) { // P6.2
	for _, r := range chapter {
		if name, ok := action.Name(r.action); name != r.name || !ok {
			t.Errorf("Name(%d): %q, %t", r.action, name, ok)
		}
		if act, ok := action.Action(r.name); act != r.action || !ok {
			t.Errorf("Action(%q): %d, %t", r.name, act, ok)
		}
	}
}

func TestNameOfNoAction(t *testing.T) { // P6.2, R2
	for _, act := range far() {
		if name, ok := action.Name(act); name != "" || ok {
			t.Errorf("Name(%d): %q, %t", act, name, ok)
		}
	}
}

func TestActionOfNoName(t *testing.T) { // P6.2, R2
	wrong := []string{
		"", " ", ".", "kill", "kill.", ".process", "process", "thread", "kill process", "kill_thread", "kill-process",
		"refuse", "err", "error", "errno.1", "user", "deny", "nothing", "none", "unknown", "\x00", "\xff", strings.Repeat("allow", 1000),
	}
	for _, r := range chapter {
		wrong = append(wrong,
			r.name[1:], r.name[:len(r.name)-1], r.name+" ", " "+r.name, r.name+"\x00", r.name+"\n", r.name+"x", r.name+r.name,
			strings.ToUpper(r.name), strings.ToUpper(r.name[:1])+r.name[1:], strconv.Itoa(r.action),
			strconv.FormatUint(uint64(r.half), 16))
	}
	for _, name := range wrong {
		if act, ok := action.Action(name); act != 0 || ok {
			t.Errorf("Action(%q): %d, %t", name, act, ok)
		}
	}
}

// words answers words of all actions with some data each, and unknown ones.
func words() []uint32 {
	l := []uint32{0x00010000, 0x00010007, 0x00020001, 0x00040000, 0x00060000, 0x7fbf0000, 0x7fc10003, 0x7ffd0000, 0x7ffe0001, 0x80010000, 0x80050000, 0xfff00000, 0xffffffff}
	for _, r := range chapter {
		for _, low := range lows() {
			l = append(l, r.half*0x10000+low)
		}
	}
	return l
}

func TestUnder(t *testing.T) { // P6.3
	for _, a := range words() {
		for _, b := range words() {
			first, _ := meaning(a)
			second, _ := meaning(b)
			if got := action.Under(a, b); got != (first < second) {
				t.Errorf("Under(%08x, %08x): %t", a, b, got)
			}
		}
	}
}

func TestUnderWrittenOut(t *testing.T) { // P6.3
	falling := []uint32{0x80000000, 0x00000000, 0x00030000, 0x00050000, 0x7fc00000, 0x7ff00000, 0x7ffc0000, 0x7fff0000}
	for i, a := range falling {
		for j, b := range falling {
			// The data does not count, on either side.
			for _, low := range []uint32{0, 1, 0xffff} {
				if action.Under(a+low, b) != (i < j) || action.Under(a, b+low) != (i < j) {
					t.Errorf("Under(%08x, %08x)", a, b)
				}
			}
		}
		// An unknown word is as restrictive as KillProcess.
		for _, unknown := range []uint32{0x00010000, 0x7ffe0000, 0xffff0000} {
			if action.Under(unknown, a) != (i > 0) || action.Under(a, unknown) {
				t.Errorf("Under of %08x and %08x", unknown, a)
			}
		}
	}
	if action.Under(0x00010000, 0xffff0000) || action.Under(0xffff0000, 0x00010000) {
		t.Error("one unknown word is under another")
	}
}

func TestExamples(t *testing.T) { // the chapter's
	if a, b, c := action.Split(0x00050001), action.Split(0x7fff0000), action.Split(0x00010007); a != (api.Verdict{Action: api.Refuse, Data: 1}) ||
		b != (api.Verdict{Action: api.Allow}) || c != (api.Verdict{Action: api.KillProcess, Data: 7}) {
		t.Error(a, b, c)
	}
	if word, e := action.Join(api.Verdict{Action: api.Trap, Data: 9}); word != 0x00030009 || e != api.OK {
		t.Error(word, e)
	}
	if word, e := action.Join(api.Verdict{Action: 8}); word != 0 || e != api.ErrVerdict {
		t.Error(word, e)
	}
	if name, ok := action.Name(4); name != "notify" || !ok {
		t.Error(name, ok)
	}
	if act, ok := action.Action("errno"); act != api.Refuse || !ok {
		t.Error(act, ok)
	}
	if v, place := action.Combine([]uint32{0x7fff0000, 0x00050001, 0x00050002}); v != (api.Verdict{Action: api.Refuse, Data: 1}) || place != 1 {
		t.Error(v, place)
	}
	if v, place := action.Combine(nil); v != (api.Verdict{Action: api.Allow}) || place != -1 {
		t.Error(v, place)
	}
	if !action.Under(0x00000000, 0x00030000) || action.Under(0x80000000, 0x00010000) {
		t.Error("Under")
	}
}
