package octet_test

import (
	"bytes"
	"math"
	"slices"
	"testing"

	"wicketgate/api"
	"wicketgate/octet"
)

// stands asks how many bytes are left, and the fault.
func stands(t *testing.T, what string, r *octet.Reader, left int, fault api.Errno) {
	t.Helper()
	if r.Left() != left || r.Err() != fault {
		t.Errorf("%s: left %d, fault %d; not %d, %d", what, r.Left(), r.Err(), left, fault)
	}
}

// silent asks that a reader gives 0 and nothing, whatever is read of it, and stays as it is.
func silent(t *testing.T, what string, r *octet.Reader) {
	t.Helper()
	left, fault := r.Left(), r.Err()
	for range 2 {
		if r.U8() != 0 || r.U16() != 0 || r.U32() != 0 || r.U64() != 0 {
			t.Errorf("%s: gives a number", what)
		}
		for _, n := range []int{0, 1, left, left + 1, -1, math.MinInt, math.MaxInt} {
			if b := r.Raw(n); len(b) != 0 {
				t.Errorf("%s: Raw(%d) gives % x", what, n, b)
			}
		}
		stands(t, what, r, left, fault)
	}
}

type reading struct {
	name  string
	width int
	read  func(r *octet.Reader) uint64
}

var readings = []reading{
	{"U8", 1, func(r *octet.Reader) uint64 { return uint64(r.U8()) }},
	{"U16", 2, func(r *octet.Reader) uint64 { return uint64(r.U16()) }},
	{"U32", 4, func(r *octet.Reader) uint64 { return uint64(r.U32()) }},
	{"U64", 8, func(r *octet.Reader) uint64 { return r.U64() }},
}

func TestReadInTurn(t *testing.T) { // P1.3, P1.4
	r := octet.Read([]byte{
		0x2A,
		0x02, 0x81,
		0x04, 0x03, 0x02, 0x81,
		0x08, 0x07, 0x06, 0x05, 0x04, 0x03, 0x02, 0x81,
		9, 0, 7,
		0xFF,
	})
	stands(t, "Read", r, 19, api.OK)
	if x := r.U8(); x != 0x2A {
		t.Errorf("U8: %#x", x)
	}
	stands(t, "U8", r, 18, api.OK)
	if x := r.U16(); x != 0x8102 {
		t.Errorf("U16: %#x", x)
	}
	stands(t, "U16", r, 16, api.OK)
	if x := r.U32(); x != 0x81020304 {
		t.Errorf("U32: %#x", x)
	}
	stands(t, "U32", r, 12, api.OK)
	if x := r.U64(); x != 0x8102030405060708 {
		t.Errorf("U64: %#x", x)
	}
	stands(t, "U64", r, 4, api.OK)
	if b := r.Raw(3); !bytes.Equal(b, []byte{9, 0, 7}) {
		t.Errorf("Raw: % x", b)
	}
	stands(t, "Raw", r, 1, api.OK)
	if x := r.U8(); x != 0xFF {
		t.Errorf("the last byte: %#x", x)
	}
	stands(t, "the end", r, 0, api.OK)
}

func TestReadWhatWasPut(t *testing.T) { // P1.3
	for _, x := range edges {
		r := octet.Read(octet.Put64(octet.Put32(octet.Put16([]byte{byte(x)}, uint16(x)), uint32(x)), x))
		if a, b, c, d := r.U8(), r.U16(), r.U32(), r.U64(); a != byte(x) || b != uint16(x) || c != uint32(x) || d != x {
			t.Errorf("%#x: %#x, %#x, %#x, %#x", x, a, b, c, d)
		}
		stands(t, "behind all", r, 0, api.OK)
	}
}

func TestReadOfTheExample(t *testing.T) { // P1.3, P1.4
	r := octet.Read([]byte{0x2A, 1, 0, 5})
	if a, b, c := r.U8(), r.U16(), r.U16(); a != 42 || b != 1 || c != 0 {
		t.Errorf("%d, %d, %d", a, b, c)
	}
	stands(t, "the example", r, 1, api.ErrShort)
	silent(t, "the example", r)
}

func TestWindowAtTheEnd(t *testing.T) { // P1.3, P1.4
	for _, q := range readings {
		for have := range 11 {
			bytesHad := bytes.Repeat([]byte{0xFF}, have)
			r := octet.Read(bytesHad)
			x := q.read(r)
			if have >= q.width {
				if want := uint64(math.MaxUint64) >> (64 - 8*q.width); x != want {
					t.Errorf("%s of %d bytes: %#x", q.name, have, x)
				}
				stands(t, q.name, r, have-q.width, api.OK)
				continue
			}
			if x != 0 {
				t.Errorf("%s of %d bytes: %#x", q.name, have, x)
			}
			stands(t, q.name, r, have, api.ErrShort)
			silent(t, q.name, r)
		}
	}
}

func TestRawAtTheEnd(t *testing.T) { // P1.3, P1.4
	r := octet.Read([]byte{1, 2, 3})
	if b := r.Raw(0); len(b) != 0 {
		t.Errorf("Raw(0): % x", b)
	}
	stands(t, "Raw(0)", r, 3, api.OK)
	if b := r.Raw(3); !bytes.Equal(b, []byte{1, 2, 3}) {
		t.Errorf("Raw of all: % x", b)
	}
	stands(t, "Raw of all", r, 0, api.OK)
	if b := r.Raw(0); len(b) != 0 {
		t.Errorf("Raw(0) at the end: % x", b)
	}
	stands(t, "Raw(0) at the end", r, 0, api.OK)
	for _, n := range []int{3, 4, math.MaxInt32, math.MaxInt} {
		r := octet.Read([]byte{1, 2, 3})
		r.U8()
		if b := r.Raw(n); len(b) != 0 {
			t.Errorf("Raw(%d) of 2: % x", n, b)
		}
		stands(t, "Raw of too many", r, 2, api.ErrShort)
		silent(t, "Raw of too many", r)
	}
}

func TestRawBelowNought(t *testing.T) { // P1.3, P1.4
	for _, n := range []int{-1, -2, math.MinInt} {
		for _, b := range [][]byte{nil, {7}, {1, 2, 3}} {
			r := octet.Read(b)
			if got := r.Raw(n); len(got) != 0 {
				t.Errorf("Raw(%d): % x", n, got)
			}
			stands(t, "Raw below 0", r, len(b), api.ErrArg)
			silent(t, "Raw below 0", r)
		}
	}
}

func TestFirstFaultStays(t *testing.T) { // P1.3, P1.4
	short := octet.Read([]byte{1, 2, 3})
	short.U32()
	short.Raw(-1)
	stands(t, "short, then below 0", short, 3, api.ErrShort)
	below := octet.Read([]byte{1, 2, 3})
	below.Raw(-1)
	below.U32()
	stands(t, "below 0, then short", below, 3, api.ErrArg)
}

func TestReadNoBytes(t *testing.T) { // P1.3, P1.4
	for _, b := range [][]byte{nil, {}} {
		r := octet.Read(b)
		if r == nil {
			t.Fatal("no reader of no bytes")
		}
		stands(t, "no bytes", r, 0, api.OK)
		if got := r.Raw(0); len(got) != 0 {
			t.Errorf("Raw(0): % x", got)
		}
		stands(t, "Raw(0) of no bytes", r, 0, api.OK)
		if r.U8() != 0 {
			t.Error("a byte of no bytes")
		}
		stands(t, "U8 of no bytes", r, 0, api.ErrShort)
	}
}

func TestNilReader(t *testing.T) { // P1.4, R4
	var r *octet.Reader
	stands(t, "nil", r, 0, api.ErrNil)
	silent(t, "nil", r)
}

func TestReadIsOfACopy(t *testing.T) { // P1.3, R3
	list, memory := roomy(1, 2, 3, 4)
	before := slices.Clone(memory)
	r := octet.Read(list)
	raw := r.Raw(2)
	clear(raw[:cap(raw)])
	if !bytes.Equal(memory, before) {
		t.Errorf("what was handed in is % x", memory)
	}
	clear(memory)
	if x := r.U16(); x != 0x0403 {
		t.Errorf("the reader follows what was handed in: %#x", x)
	}
	if r.U8() != 0 || r.Err() != api.ErrShort {
		t.Error("the reader sees the room behind the list's end")
	}
}

func TestRawIsNewMemory(t *testing.T) { // P1.3, R3
	r := octet.Read([]byte{1, 2, 3, 4, 5})
	one := r.Raw(2)
	full := one[:cap(one)]
	for i := range full {
		full[i] = 0xEE
	}
	two := r.Raw(2)
	if !bytes.Equal(two, []byte{3, 4}) {
		t.Errorf("a change of one answer changed the next one: % x", two)
	}
	if !bytes.Equal(one, []byte{0xEE, 0xEE}) {
		t.Errorf("the next answer changed the one before: % x", one)
	}
	clear(append(two, 9))
	if x := r.U8(); x != 5 {
		t.Errorf("a change of an answer changed the reader: %d", x)
	}
}

func TestReadersAreApart(t *testing.T) { // P1.3, R5
	b := []byte{1, 2, 3}
	one, two := octet.Read(b), octet.Read(b)
	one.U32()
	if x := two.U16(); x != 0x0201 {
		t.Errorf("the second reader: %#x", x)
	}
	stands(t, "the first reader", one, 3, api.ErrShort)
	stands(t, "the second reader", two, 1, api.OK)
}

func TestReaderCopied(t *testing.T) { // P1.3, R3
	one := octet.Read([]byte{1, 2, 3})
	two := *one
	raw := one.Raw(2)
	clear(raw)
	if got := two.Raw(3); !bytes.Equal(got, []byte{1, 2, 3}) {
		t.Errorf("a change of an answer reached the bytes that are looked at: % x", got)
	}
	stands(t, "the one that was copied", one, 1, api.OK)
}

// Of a zero reader nothing is asked but that it does not panic (R1).
func TestZeroReaderEnds(t *testing.T) {
	var r octet.Reader
	r.U8()
	r.Raw(0)
	r.Raw(-1)
	r.Left()
	r.Err()
}
