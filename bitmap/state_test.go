package bitmap_test

import (
	"math"
	"testing"

	"wicketgate/api"
	"wicketgate/bitmap"
)

// chance answers numbers below a bound, others for each seed.
func chance(seed uint64) func(below int) int {
	return func(below int) int {
		seed = seed*6364136223846793005 + 1442695040888963407
		return int(seed >> 33 % uint64(below))
	}
}

// sure is what is known of a number of which the value is known.
func sure(x uint32) api.Abs { return api.Abs{Known: true, Value: x} }

// guess answers something that may be known, out of few things.
func guess(next func(int) int) known {
	if next(8) == 0 {
		return nil
	}
	k := known{}
	for _, name := range names {
		if next(4) > 0 {
			k[name] = []uint32{0, 1, math.MaxUint32}[next(3)]
		}
	}
	return k
}

func TestJoin(t *testing.T) { // P7.1
	next := chance(1)
	for range 20000 {
		a, b := guess(next), guess(next)
		if got, want := bitmap.Join(state(a), state(b)), state(meet(a, b)); got != want {
			t.Fatalf("Join(%v, %v): %+v", a, b, got)
		}
	}
}

// place is one of the numbers of a state, and of a machine.
type place struct {
	of func(*api.State) *api.Abs
	in func(*api.Vm) *uint32
}

// places answers all of them.
func places() []place {
	l := []place{
		{func(s *api.State) *api.Abs { return &s.A }, func(m *api.Vm) *uint32 { return &m.A }},
		{func(s *api.State) *api.Abs { return &s.X }, func(m *api.Vm) *uint32 { return &m.X }},
	}
	for i := range 16 {
		l = append(l, place{func(s *api.State) *api.Abs { return &s.Mem[i] }, func(m *api.Vm) *uint32 { return &m.Mem[i] }})
	}
	return l
}

func TestJoinAtEachPlace(t *testing.T) { // P7.1
	for i, p := range places() {
		for _, q := range []struct{ a, b, want api.Abs }{
			{sure(0), sure(0), sure(0)},
			{sure(7), sure(7), sure(7)},
			{sure(math.MaxUint32), sure(math.MaxUint32), sure(math.MaxUint32)},
			{sure(7), sure(8), api.Abs{}},
			{sure(0), sure(1 << 31), api.Abs{}},
			{sure(0), api.Abs{}, api.Abs{}},
			{sure(7), api.Abs{}, api.Abs{}},
			{api.Abs{}, sure(7), api.Abs{}},
			{api.Abs{}, sure(0), api.Abs{}},
			{api.Abs{}, api.Abs{}, api.Abs{}},
		} {
			a, b, want := api.State{Reached: true, A: sure(3)}, api.State{Reached: true, A: sure(3)}, api.State{Reached: true, A: sure(3)}
			*p.of(&a), *p.of(&b), *p.of(&want) = q.a, q.b, q.want
			if got := bitmap.Join(a, b); got != want {
				t.Errorf("at %d of %v and %v: %+v", i, q.a, q.b, got)
			}
			if got := bitmap.Join(a, api.State{}); got != a {
				t.Errorf("at %d of %v and what is not reached: %+v", i, q.a, got)
			}
			if got := bitmap.Join(api.State{}, b); got != b {
				t.Errorf("at %d of what is not reached and %v: %+v", i, q.b, got)
			}
		}
	}
	if got := bitmap.Join(api.State{}, api.State{}); got != (api.State{}) {
		t.Errorf("of two that are not reached: %+v", got)
	}
}

func TestJoinHoldsToNoOrder(t *testing.T) { // P7.1
	next := chance(2)
	for range 5000 {
		a, b, c := state(guess(next)), state(guess(next)), state(guess(next))
		if bitmap.Join(a, b) != bitmap.Join(b, a) {
			t.Fatalf("%+v and %+v", a, b)
		}
		if bitmap.Join(bitmap.Join(a, b), c) != bitmap.Join(a, bitmap.Join(b, c)) {
			t.Fatalf("%+v and %+v and %+v", a, b, c)
		}
		if bitmap.Join(a, a) != a {
			t.Fatalf("%+v with itself", a)
		}
	}
}

func TestJoinOfStatesWithOtherThings(t *testing.T) { // P7.1, R3: what has no meaning is zero in the answer
	odd := api.Abs{Value: 7}
	for i, p := range places() {
		aside := api.State{}
		*p.of(&aside) = sure(9)
		a, plain := api.State{Reached: true, X: sure(3)}, api.State{Reached: true, X: sure(3)}
		*p.of(&a), *p.of(&plain) = odd, api.Abs{}
		for j, q := range []struct{ a, b, want api.State }{
			{a, api.State{}, plain}, {api.State{}, a, plain}, {a, a, plain}, {a, plain, plain}, {plain, a, plain},
			{aside, a, plain}, {a, aside, plain}, {aside, plain, plain}, {plain, aside, plain},
			{aside, aside, api.State{}}, {aside, api.State{}, api.State{}}, {api.State{}, aside, api.State{}},
		} {
			if got := bitmap.Join(q.a, q.b); got != q.want {
				t.Errorf("at %d, %d: %+v", i, j, got)
			}
		}
		sevens := plain
		*p.of(&sevens) = sure(7)
		if got := bitmap.Join(a, sevens); got != plain {
			t.Errorf("at %d, of nothing and 7: %+v", i, got)
		}
		if got := bitmap.Join(sevens, a); got != plain {
			t.Errorf("at %d, of 7 and nothing: %+v", i, got)
		}
	}
}

func TestFits(t *testing.T) { // P7.1
	m := api.Vm{Pc: 5, A: 10, X: 11}
	exact := api.State{Reached: true, A: sure(10), X: sure(11)}
	for i := range m.Mem {
		m.Mem[i] = 20 + uint32(i)
		exact.Mem[i] = sure(m.Mem[i])
	}
	if !bitmap.Fits(m, exact) || !bitmap.Fits(m, api.State{Reached: true}) {
		t.Error("what is known, or nothing")
	}
	aside := exact
	aside.Reached = false
	if bitmap.Fits(m, aside) || bitmap.Fits(m, api.State{}) || bitmap.Fits(api.Vm{}, api.State{}) {
		t.Error("what is not reached")
	}
	for _, pc := range []int{0, -1, 64, math.MinInt, math.MaxInt} {
		m.Pc = pc
		if !bitmap.Fits(m, exact) {
			t.Errorf("Pc %d", pc)
		}
	}
	for i, p := range places() {
		for _, x := range []uint32{0, 1, math.MaxUint32, 1 << 31} {
			other := m
			*p.in(&other) = x
			if bitmap.Fits(other, exact) {
				t.Errorf("at %d: %d", i, x)
			}
			unsure := exact
			*p.of(&unsure) = api.Abs{}
			if !bitmap.Fits(other, unsure) {
				t.Errorf("at %d: %d, of which nothing is known", i, x)
			}
			*p.of(&unsure) = api.Abs{Value: 3}
			if !bitmap.Fits(other, unsure) {
				t.Errorf("at %d: %d, of which nothing is known but a value stands there", i, x)
			}
			alone := api.State{Reached: true}
			*p.of(&alone) = sure(x)
			if !bitmap.Fits(other, alone) || bitmap.Fits(m, alone) {
				t.Errorf("at %d: %d, which alone is known", i, x)
			}
		}
	}
}

func TestWhatFitsOneFitsBoth(t *testing.T) { // P7.1
	next := chance(3)
	fitting := 0
	for range 20000 {
		a, b, m := state(guess(next)), state(guess(next)), api.Vm{}
		for _, p := range places() {
			x := p.of(&a)
			*p.in(&m) = x.Value
			if next(40) == 0 {
				*p.in(&m) = uint32(next(2))
			}
		}
		if !bitmap.Fits(m, a) && !bitmap.Fits(m, b) {
			continue
		}
		fitting++
		if !bitmap.Fits(m, bitmap.Join(a, b)) {
			t.Fatalf("%+v of %+v and %+v", m, a, b)
		}
	}
	if fitting < 5000 {
		t.Error(fitting)
	}
}
