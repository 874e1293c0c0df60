package insn_test

import (
	"bytes"
	"math"
	"slices"
	"testing"

	"wicketgate/api"
	"wicketgate/insn"
)

// Instructions whose fields differ, are noughts, are the greatest, and whose codes no filter may have.
var samples = []api.Insn{
	{},
	{Code: 0x15, Jt: 1, Jf: 2, K: 0x01020304},
	{Code: 0x06, K: 0x80000000},
	{Code: 0x1d, Jt: 0xFF},
	{Code: 0x45, Jf: 0xFF, K: 0xFF000000},
	{Code: 0x94, Jt: 3, Jf: 4, K: 0x00FF},
	{Code: 0x1234, Jt: 0x56, Jf: 0x78, K: 0x9ABCDEF0},
	{Code: 0x0100},
	{Code: math.MaxUint16, Jt: math.MaxUint8, Jf: math.MaxUint8, K: math.MaxUint32},
}

// byDivision answers an instruction's bytes as the document's words tell them.
func byDivision(x api.Insn) []byte {
	return []byte{
		byte(x.Code % 256), byte(x.Code / 256),
		x.Jt, x.Jf,
		byte(x.K % 256), byte(x.K / 256 % 256), byte(x.K / 65536 % 256), byte(x.K / 16777216),
	}
}

// many answers n instructions, each unlike the one ahead of it.
func many(n int) []api.Insn {
	l := make([]api.Insn, n)
	for i := range l {
		l[i] = api.Insn{Code: uint16(257 * i), Jt: uint8(i), Jf: uint8(i + 1), K: uint32(i) * 0x01010101}
	}
	return l
}

// manyBytes answers n bytes, each unlike the one ahead of it.
func manyBytes(n int) []byte {
	b := make([]byte, n)
	for i := range b {
		b[i] = byte(i*7 + i/256)
	}
	return b
}

// roomy answers a list with room behind its end, and all of its memory.
func roomy[T any](l []T, behind ...T) (list, memory []T) {
	memory = append(slices.Clone(l), behind...)
	return memory[:len(l)], memory
}

func TestEncodeWrittenOut(t *testing.T) { // P2.1
	for _, q := range []struct {
		x    api.Insn
		want []byte
	}{
		{api.Insn{Code: 0x15, Jt: 1, Jf: 2, K: 0x01020304}, []byte{0x15, 0, 1, 2, 4, 3, 2, 1}},
		{api.Insn{}, []byte{0, 0, 0, 0, 0, 0, 0, 0}},
		{api.Insn{Code: 0x0102}, []byte{2, 1, 0, 0, 0, 0, 0, 0}},
		{api.Insn{Jt: 9}, []byte{0, 0, 9, 0, 0, 0, 0, 0}},
		{api.Insn{Jf: 9}, []byte{0, 0, 0, 9, 0, 0, 0, 0}},
		{api.Insn{K: 0x80000000}, []byte{0, 0, 0, 0, 0, 0, 0, 0x80}},
		{api.Insn{Code: 0xFFFF, Jt: 0xFF, Jf: 0xFF, K: 0xFFFFFFFF}, bytes.Repeat([]byte{0xFF}, 8)},
	} {
		if got := insn.Encode(q.x); !bytes.Equal(got, q.want) {
			t.Errorf("Encode(%+v): % x, not % x", q.x, got, q.want)
		}
	}
}

func TestEncodeOfSamples(t *testing.T) { // P2.1
	for _, x := range samples {
		if got := insn.Encode(x); !bytes.Equal(got, byDivision(x)) {
			t.Errorf("Encode(%+v): % x", x, got)
		}
	}
}

func TestDecodeWrittenOut(t *testing.T) { // P2.1
	for _, q := range []struct {
		b    []byte
		want api.Insn
	}{
		{[]byte{0x15, 0, 1, 2, 4, 3, 2, 1}, api.Insn{Code: 0x15, Jt: 1, Jf: 2, K: 0x01020304}},
		{[]byte{1, 2, 3, 4, 5, 6, 7, 8}, api.Insn{Code: 0x0201, Jt: 3, Jf: 4, K: 0x08070605}},
		{make([]byte, 8), api.Insn{}},
	} {
		if got, e := insn.Decode(q.b); e != api.OK || got != q.want {
			t.Errorf("Decode(% x): %+v, %d", q.b, got, e)
		}
	}
}

func TestDecodeOfTooFew(t *testing.T) { // P2.1
	for n := range 8 {
		// The room behind the end would be enough: it does not count.
		b, _ := roomy(bytes.Repeat([]byte{0xFF}, n), manyBytes(16)...)
		if got, e := insn.Decode(b); e != api.ErrShort || got != (api.Insn{}) {
			t.Errorf("Decode of %d bytes: %+v, %d", n, got, e)
		}
	}
	if got, e := insn.Decode(nil); e != api.ErrShort || got != (api.Insn{}) {
		t.Errorf("Decode of nil: %+v, %d", got, e)
	}
}

func TestDecodeLooksAtEight(t *testing.T) { // P2.1
	want := api.Insn{Code: 0x0201, Jt: 3, Jf: 4, K: 0x08070605}
	for _, n := range []int{8, 9, 15, 16, 2040, 2041, 2048, 100000} {
		b := append([]byte{1, 2, 3, 4, 5, 6, 7, 8}, bytes.Repeat([]byte{0xEE}, n-8)...)
		if got, e := insn.Decode(b); e != api.OK || got != want {
			t.Errorf("Decode of %d bytes: %+v, %d", n, got, e)
		}
	}
}

func TestEncodeAll(t *testing.T) { // P2.2
	for _, n := range []int{0, 1, 2, 3, 41, 254, 255} {
		l := many(n)
		var want []byte
		for _, x := range l {
			want = append(want, byDivision(x)...)
		}
		if got, e := insn.EncodeAll(l); e != api.OK || !bytes.Equal(got, want) {
			t.Errorf("EncodeAll of %d: % x, %d", n, got, e)
		}
	}
}

func TestEncodeAllOfTooMany(t *testing.T) { // P2.2
	for _, n := range []int{256, 257, 511, 65536} {
		if got, e := insn.EncodeAll(many(n)); e != api.ErrLong || len(got) != 0 {
			t.Errorf("EncodeAll of %d: %d bytes, %d", n, len(got), e)
		}
	}
}

func TestDecodeAll(t *testing.T) { // P2.2
	for _, n := range []int{8, 16, 24, 2032, 2040} {
		b := manyBytes(n)
		l, e := insn.DecodeAll(b)
		if e != api.OK || len(l) != n/8 {
			t.Errorf("DecodeAll of %d bytes: %d, %d", n, len(l), e)
			continue
		}
		for i, x := range l {
			if want := b[8*i : 8*i+8]; !bytes.Equal(byDivision(x), want) {
				t.Errorf("DecodeAll of %d bytes: at %d %+v, not % x", n, i, x, want)
			}
		}
	}
}

func TestDecodeAllOfNothing(t *testing.T) { // P2.2
	for _, b := range [][]byte{nil, {}, manyBytes(8)[:0]} {
		if l, e := insn.DecodeAll(b); e != api.OK || len(l) != 0 {
			t.Errorf("DecodeAll of nothing: %+v, %d", l, e)
		}
	}
	for _, l := range [][]api.Insn{nil, {}, many(1)[:0]} {
		if b, e := insn.EncodeAll(l); e != api.OK || len(b) != 0 {
			t.Errorf("EncodeAll of nothing: % x, %d", b, e)
		}
	}
}

func TestDecodeAllRefused(t *testing.T) { // P2.2
	for _, q := range []struct {
		n    int
		want api.Errno
	}{
		{1, api.ErrRow}, {4, api.ErrRow}, {7, api.ErrRow}, {9, api.ErrRow}, {15, api.ErrRow}, {17, api.ErrRow},
		{2033, api.ErrRow}, {2039, api.ErrRow},
		// Too long goes ahead of no row.
		{2041, api.ErrLong}, {2047, api.ErrLong}, {2048, api.ErrLong}, {2049, api.ErrLong}, {4096, api.ErrLong},
	} {
		// With the room behind the end it would be a row.
		b, _ := roomy(manyBytes(q.n), manyBytes(8-q.n%8)...)
		if l, e := insn.DecodeAll(b); e != q.want || len(l) != 0 {
			t.Errorf("DecodeAll of %d bytes: %d, %d, not %d", q.n, len(l), e, q.want)
		}
	}
}

func TestLimitsAreOne(t *testing.T) { // P2.2
	longest, e := insn.EncodeAll(many(api.MaxRow))
	if e != api.OK || len(longest) != 2040 {
		t.Fatal(len(longest), e)
	}
	if l, e := insn.DecodeAll(longest); e != api.OK || !slices.Equal(l, many(api.MaxRow)) {
		t.Error(len(l), e)
	}
}

func TestBothWays(t *testing.T) { // P2.4
	for _, x := range slices.Concat(samples, many(300)) {
		if y, e := insn.Decode(insn.Encode(x)); e != api.OK || y != x {
			t.Errorf("Decode of Encode of %+v: %+v, %d", x, y, e)
		}
	}
	for i := range 600 {
		b := manyBytes(i + 8)[i:]
		x, e := insn.Decode(b)
		if got := insn.Encode(x); e != api.OK || !bytes.Equal(got, b) {
			t.Errorf("Encode of Decode of % x: % x, %d", b, got, e)
		}
	}
}

func TestBothWaysOfAll(t *testing.T) { // P2.4
	for n := range api.MaxRow + 1 {
		l := many(n)
		b, e := insn.EncodeAll(l)
		if e != api.OK || len(b) != 8*n {
			t.Errorf("EncodeAll of %d: %d bytes, %d", n, len(b), e)
		}
		if back, e := insn.DecodeAll(b); e != api.OK || !slices.Equal(back, l) {
			t.Errorf("DecodeAll of EncodeAll of %d: %+v, %d", n, back, e)
		}
		b = manyBytes(8 * n)
		l, e = insn.DecodeAll(b)
		if e != api.OK {
			t.Errorf("DecodeAll of %d bytes: %d", 8*n, e)
		}
		if back, e := insn.EncodeAll(l); e != api.OK || !bytes.Equal(back, b) {
			t.Errorf("EncodeAll of DecodeAll of %d bytes: % x, %d", 8*n, back, e)
		}
	}
}

func TestWhatIsHandedInStays(t *testing.T) { // R3
	for _, n := range []int{0, 1, 3, 255, 256} {
		l, memory := roomy(many(n), samples...)
		before := slices.Clone(memory)
		insn.EncodeAll(l)
		if !slices.Equal(memory, before) {
			t.Errorf("EncodeAll of %d has changed what it was handed", n)
		}
	}
	for _, n := range []int{0, 7, 8, 9, 24, 2040, 2048} {
		b, memory := roomy(manyBytes(n), manyBytes(16)...)
		before := bytes.Clone(memory)
		insn.Decode(b)
		insn.DecodeAll(b)
		if !bytes.Equal(memory, before) {
			t.Errorf("Decode or DecodeAll of %d bytes has changed what it was handed", n)
		}
	}
}

// fill overwrites all of a list, and the room behind its end.
func fill[T any](l []T, with T) {
	l = l[:cap(l)]
	for i := range l {
		l[i] = with
	}
}

func TestAnswersAreNewMemory(t *testing.T) { // R3
	x := api.Insn{Code: 0x15, Jt: 1, Jf: 2, K: 0x01020304}
	l := []api.Insn{x, x, {Code: 6}}
	want, _ := insn.EncodeAll(l)
	want = bytes.Clone(want)

	one, again := insn.Encode(x), insn.Encode(x)
	fill(one, 0xEE)
	if !bytes.Equal(again, want[:8]) {
		t.Errorf("two answers of Encode share memory: % x", again)
	}
	b, other := must(insn.EncodeAll(l)), must(insn.EncodeAll(l))
	fill(b, 0xEE)
	if !bytes.Equal(other, want) {
		t.Errorf("two answers of EncodeAll share memory: % x", other)
	}
	back, second := must(insn.DecodeAll(other)), must(insn.DecodeAll(other))
	fill(back, api.Insn{Code: 0xEEEE})
	if !slices.Equal(second, l) || !bytes.Equal(other, want) {
		t.Errorf("an answer of DecodeAll shares memory: %+v, % x", second, other)
	}
	fill(other, 0xEE)
	if !slices.Equal(second, l) {
		t.Errorf("an answer of DecodeAll stands in what was handed in: %+v", second)
	}
}

// must answers nothing beside an error: the tests that ask it hold its answer against something.
func must[T any](l []T, e api.Errno) []T {
	if e != api.OK {
		return nil
	}
	return l
}
