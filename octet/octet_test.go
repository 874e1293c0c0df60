package octet_test

import (
	"bytes"
	"math"
	"math/big"
	"slices"
	"testing"

	"wicketgate/octet"
)

// The numbers at which a byte, or a width, ends or begins.
var edges = []uint64{
	0, 1, 2, 127, 128, 255, 256, 258, 0x1234, 0x7FFF, 0x8000, 0xFFFF, 0x10000,
	0x12345678, 0x7FFFFFFF, 0x80000000, 0xFFFFFFFF, 0x100000000,
	0x0123456789ABCDEF, 0xFEDCBA9876543210, math.MaxInt64, 1 << 63, math.MaxUint64,
}

// roomy answers a list with room behind its end, and all of its memory.
func roomy(b ...byte) (list, memory []byte) {
	memory = append(slices.Clone(b), bytes.Repeat([]byte{0xEE}, 16)...)
	return memory[:len(b)], memory
}

// byDivision answers a number's bytes as the document's words tell them.
func byDivision(x uint64, width int) []byte {
	var b []byte
	for range width {
		b = append(b, byte(x%256))
		x /= 256
	}
	return b
}

type putting struct {
	name  string
	width int
	put   func(b []byte, x uint64) []byte
}

var puttings = []putting{
	{"Put16", 2, func(b []byte, x uint64) []byte { return octet.Put16(b, uint16(x)) }},
	{"Put32", 4, func(b []byte, x uint64) []byte { return octet.Put32(b, uint32(x)) }},
	{"Put64", 8, octet.Put64},
}

func TestPutWrittenOut(t *testing.T) { // P1.1
	for _, q := range []struct {
		name      string
		got, want []byte
	}{
		{"Put16 behind a byte", octet.Put16([]byte{7}, 258), []byte{7, 2, 1}},
		{"Put16 of 0", octet.Put16(nil, 0), []byte{0, 0}},
		{"Put16 of the greatest", octet.Put16(nil, 0xFFFF), []byte{0xFF, 0xFF}},
		{"Put32", octet.Put32(nil, 0x01020304), []byte{4, 3, 2, 1}},
		{"Put32 behind bytes", octet.Put32([]byte{9, 8}, 0x80000000), []byte{9, 8, 0, 0, 0, 0x80}},
		{"Put64 of 1", octet.Put64(nil, 1), []byte{1, 0, 0, 0, 0, 0, 0, 0}},
		{"Put64", octet.Put64([]byte{0}, 0x0102030405060708), []byte{0, 8, 7, 6, 5, 4, 3, 2, 1}},
		{"Put64 of the greatest", octet.Put64([]byte{}, math.MaxUint64), bytes.Repeat([]byte{0xFF}, 8)},
	} {
		if !bytes.Equal(q.got, q.want) {
			t.Errorf("%s: % x, not % x", q.name, q.got, q.want)
		}
	}
}

func TestPutIsByDivision(t *testing.T) { // P1.1
	for _, p := range puttings {
		for _, x := range edges {
			for _, before := range [][]byte{nil, {}, {5}, {0, 0xFF, 1}} {
				want := slices.Concat(before, byDivision(x, p.width))
				if got := p.put(before, x); !bytes.Equal(got, want) {
					t.Errorf("%s of %#x behind % x: % x", p.name, x, before, got)
				}
			}
		}
	}
}

func TestPutIsNewMemory(t *testing.T) { // P1.1, R3
	for _, p := range puttings {
		list, memory := roomy(1, 2, 3)
		before := slices.Clone(memory)
		one := p.put(list, 0x0102030405060708)
		two := p.put(list, math.MaxUint64)
		if !bytes.Equal(one, slices.Concat([]byte{1, 2, 3}, byDivision(0x0102030405060708, p.width))) {
			t.Errorf("%s: a second call changed the first one's answer: % x", p.name, one)
		}
		clear(one[:cap(one)])
		clear(two[:cap(two)])
		if !bytes.Equal(memory, before) {
			t.Errorf("%s: what was handed in is % x", p.name, memory)
		}
		kept := p.put(list, 7)
		clear(memory)
		if !bytes.Equal(kept[:3], []byte{1, 2, 3}) {
			t.Errorf("%s: the answer follows what was handed in: % x", p.name, kept)
		}
	}
}

func TestAddWrittenOut(t *testing.T) { // P1.2
	for _, q := range []struct{ a, b, want []byte }{
		{nil, nil, nil},
		{[]byte{}, nil, nil},
		{nil, []byte{5, 6}, []byte{5, 6}},
		{[]byte{0}, nil, []byte{0}},
		{[]byte{1}, []byte{2}, []byte{3}},
		{[]byte{0xFF, 0}, []byte{1}, []byte{0, 1}},
		{[]byte{0xFF}, []byte{1}, []byte{0}},
		{[]byte{0xFF}, []byte{0xFF}, []byte{0xFE}},
		{[]byte{0xFF, 0xFF}, []byte{0xFF, 0xFF}, []byte{0xFE, 0xFF}},
		{[]byte{0xFF, 0xFF, 0xFF}, []byte{1}, []byte{0, 0, 0}},
		{[]byte{0xFF, 0xFF, 0, 7}, []byte{2}, []byte{1, 0, 1, 7}},
		{[]byte{0, 0, 1}, []byte{0, 0}, []byte{0, 0, 1}},
	} {
		for _, s := range [][]byte{octet.Add(q.a, q.b), octet.Add(q.b, q.a)} {
			if !bytes.Equal(s, q.want) {
				t.Errorf("% x and % x: % x, not % x", q.a, q.b, s, q.want)
			}
		}
	}
}

// number answers the number whose bytes b are.
func number(b []byte) *big.Int {
	high := slices.Clone(b)
	slices.Reverse(high)
	return new(big.Int).SetBytes(high)
}

func TestAddIsTheSum(t *testing.T) { // P1.2
	var rows [][]byte
	for n := range 12 {
		low, high, mixed := make([]byte, n), make([]byte, n), make([]byte, n)
		for i := range n {
			low[i], high[i], mixed[i] = byte(i), 0xFF, byte(93*i+201)
		}
		rows = append(rows, low, high, mixed)
	}
	for _, a := range rows {
		for _, b := range rows {
			width := max(len(a), len(b))
			modulus := new(big.Int).Lsh(big.NewInt(1), uint(8*width))
			want := new(big.Int).Add(number(a), number(b))
			want.Mod(want, modulus)
			if s := octet.Add(a, b); len(s) != width || number(s).Cmp(want) != 0 {
				t.Errorf("% x and % x: % x", a, b, s)
			}
		}
	}
}

func TestAddIsNewMemory(t *testing.T) { // P1.2, R3
	a, memoryA := roomy(0xFF, 0xFF, 3)
	b, memoryB := roomy(1)
	beforeA, beforeB := slices.Clone(memoryA), slices.Clone(memoryB)
	for _, s := range [][]byte{octet.Add(a, b), octet.Add(b, a), octet.Add(a, a), octet.Add(a, nil), octet.Add(nil, a)} {
		clear(s[:cap(s)])
	}
	if !bytes.Equal(memoryA, beforeA) || !bytes.Equal(memoryB, beforeB) {
		t.Errorf("what was handed in is % x, % x", memoryA, memoryB)
	}
	kept := octet.Add(a, nil)
	clear(memoryA)
	if !bytes.Equal(kept, []byte{0xFF, 0xFF, 3}) {
		t.Errorf("the answer follows what was handed in: % x", kept)
	}
}

func TestFirstBytes(t *testing.T) { // P1.5
	for _, x := range edges {
		whole := octet.Put64(nil, x)
		for width := range 9 {
			left := x
			if width < 8 {
				left = x % (1 << (8 * width))
			}
			if !bytes.Equal(whole[:width], octet.Put64(nil, left)[:width]) {
				t.Errorf("the first %d of % x are not those of %#x", width, whole, left)
			}
		}
		if !bytes.Equal(whole[:2], octet.Put16(nil, uint16(x))) || !bytes.Equal(whole[:4], octet.Put32(nil, uint32(x))) {
			t.Errorf("% x does not begin as the narrower ones of %#x", whole, x)
		}
	}
}

func TestOddByFirstByte(t *testing.T) { // P1.5
	for _, p := range puttings {
		for _, x := range edges {
			if p.put(nil, x)[0]%2 != byte(x%2) {
				t.Errorf("%s of %#x: the first byte is not odd just as the number is", p.name, x)
			}
		}
	}
}

func TestAddOfPut(t *testing.T) { // P1.5
	for _, x := range edges {
		for _, y := range edges {
			for _, p := range puttings {
				if s := octet.Add(p.put(nil, x), p.put(nil, y)); !bytes.Equal(s, p.put(nil, x+y)) {
					t.Errorf("%s of %#x and %#x: % x", p.name, x, y, s)
				}
			}
		}
	}
}

func TestGreaterByLastPlace(t *testing.T) { // P1.5
	for _, x := range edges {
		for _, y := range edges {
			a, b := octet.Put64(nil, x), octet.Put64(nil, y)
			last := 7
			for last > 0 && a[last] == b[last] {
				last--
			}
			if (x > y) != (a[last] > b[last]) {
				t.Errorf("%#x and %#x: % x, % x", x, y, a, b)
			}
		}
	}
}
