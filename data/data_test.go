package data_test

import (
	"bytes"
	"math"
	"slices"
	"testing"

	"wicketgate/api"
	"wicketgate/data"
)

// counted answers the data whose bytes are 1, 2, 3 and so on: each byte tells its place.
func counted() api.Data {
	return api.Data{
		Nr: 0x04030201, Arch: 0x08070605, Ip: 0x100F0E0D0C0B0A09,
		Args: [6]uint64{
			0x1817161514131211, 0x201F1E1D1C1B1A19, 0x2827262524232221,
			0x302F2E2D2C2B2A29, 0x3837363534333231, 0x403F3E3D3C3B3A39,
		},
	}
}

// samples answers data of all kinds: noughts, the greatest, a bit at each place, and mixed ones.
func samples() []api.Data {
	top := uint64(math.MaxUint64)
	all := []api.Data{
		{},
		counted(),
		{Nr: 7},
		{Nr: 1, Arch: api.ArchOne},
		{Nr: math.MaxUint32, Arch: api.ArchTwo, Ip: 1<<32 + 5},
		{Nr: math.MaxUint32, Arch: math.MaxUint32, Ip: top, Args: [6]uint64{top, top, top, top, top, top}},
		{Args: [6]uint64{math.MaxUint32, 1 << 32, math.MaxInt64, 1 << 63, 1 << 31, math.MaxInt32}},
	}
	for bit := range 32 {
		all = append(all, api.Data{Nr: 1 << bit}, api.Data{Arch: 1 << bit})
	}
	for bit := range 64 {
		all = append(all, api.Data{Ip: 1 << bit})
		for i := range 6 {
			d := api.Data{}
			d.Args[i] = 1 << bit
			all = append(all, d)
		}
	}
	x := uint64(1)
	next := func() uint64 {
		x = x*6364136223846793005 + 1442695040888963407
		return x ^ x>>29
	}
	for range 50 {
		d := api.Data{Nr: uint32(next()), Arch: uint32(next()), Ip: next()}
		for i := range d.Args {
			d.Args[i] = next()
		}
		all = append(all, d)
	}
	return all
}

// byDivision answers a data's bytes as the document's words tell them.
func byDivision(d api.Data) []byte {
	var b []byte
	put := func(x uint64, width int) {
		for range width {
			b = append(b, byte(x%256))
			x /= 256
		}
	}
	put(uint64(d.Nr), 4)
	put(uint64(d.Arch), 4)
	put(d.Ip, 8)
	for _, x := range d.Args {
		put(x, 8)
	}
	return b
}

// wordAt answers the number of the four bytes at a place.
func wordAt(b []byte, place int) uint32 {
	return uint32(b[place]) + 256*uint32(b[place+1]) + 256*256*uint32(b[place+2]) + 256*256*256*uint32(b[place+3])
}

// strange answers offsets at which no word is.
func strange() []uint32 {
	var l []uint32
	for offset := range uint32(1024) {
		if offset%4 != 0 || offset > 60 {
			l = append(l, offset)
		}
	}
	// Those that a narrower number, or one with a sign, would take for a lesser one.
	for _, offset := range []uint32{1 << 8, 1 << 16, 1 << 24, 1 << 30, 1 << 31, 1<<32 - 64, 1<<32 - 4, 1<<32 - 1} {
		l = append(l, offset, offset+4, offset+60, offset|1)
	}
	return slices.DeleteFunc(l, func(offset uint32) bool { return offset%4 == 0 && offset <= 60 })
}

// roomy answers a list with room behind its end, and all of its memory.
func roomy(b []byte, behind int) (list, memory []byte) {
	memory = slices.Concat(b, bytes.Repeat([]byte{0xEE}, behind))
	return memory[:len(b)], memory
}

func TestEncodeWrittenOut(t *testing.T) { // P3.1
	want := make([]byte, 64)
	for i := range want {
		want[i] = byte(i + 1)
	}
	if b := data.Encode(counted()); !bytes.Equal(b, want) {
		t.Errorf("% x", b)
	}
	if b := data.Encode(api.Data{}); !bytes.Equal(b, make([]byte, 64)) {
		t.Errorf("of noughts: % x", b)
	}
}

func TestEncodeIsByDivision(t *testing.T) { // P3.1
	for _, d := range samples() {
		if b := data.Encode(d); len(b) != api.DataBytes || !bytes.Equal(b, byDivision(d)) {
			t.Errorf("Encode of %+v: % x", d, b)
		}
	}
}

func TestDecode(t *testing.T) { // P3.1
	for _, want := range samples() {
		b, _ := roomy(byDivision(want), 9)
		if d, e := data.Decode(b); e != api.OK || d != want {
			t.Errorf("Decode(% x): %+v, %d", b, d, e)
		}
	}
}

func TestDecodeOfTooFewOrTooMany(t *testing.T) { // P3.1
	for n := range 300 {
		// With the room behind the end there would be enough: it does not count.
		b, _ := roomy(bytes.Repeat([]byte{0xFF}, n), 64)
		want := api.OK
		switch {
		case n < 64:
			want = api.ErrShort
		case n > 64:
			want = api.ErrLong
		}
		d, e := data.Decode(b)
		if e != want || (e != api.OK) != (d == api.Data{}) {
			t.Errorf("Decode of %d bytes: %+v, %d, not %d", n, d, e, want)
		}
	}
	for _, b := range [][]byte{nil, {}} {
		if d, e := data.Decode(b); e != api.ErrShort || d != (api.Data{}) {
			t.Errorf("Decode of nothing: %+v, %d", d, e)
		}
	}
	for _, n := range []int{128, 1 << 16, 1<<16 + 64, 1 << 20} {
		if d, e := data.Decode(bytes.Repeat([]byte{1}, n)); e != api.ErrLong || d != (api.Data{}) {
			t.Errorf("Decode of %d bytes: %+v, %d", n, d, e)
		}
	}
}

func TestWordAndWords(t *testing.T) { // P3.2
	for _, d := range samples() {
		b := byDivision(d)
		all := data.Words(d)
		for i := range 16 {
			want := wordAt(b, 4*i)
			if x, e := data.Word(d, uint32(4*i)); e != api.OK || x != want {
				t.Errorf("Word of %+v at %d: %#x, %d, not %#x", d, 4*i, x, e, want)
			}
			if all[i] != want {
				t.Errorf("Words of %+v: %#x at %d, not %#x", d, all[i], i, want)
			}
		}
	}
}

func TestWordsWrittenOut(t *testing.T) { // P3.2
	d := api.Data{Nr: 1, Arch: 2, Ip: 4<<32 + 3, Args: [6]uint64{
		6<<32 + 5, 8<<32 + 7, 10<<32 + 9, 12<<32 + 11, 14<<32 + 13, 16<<32 + 15,
	}}
	if w := data.Words(d); w != [16]uint32{1, 2, 3, 4, 5, 6, 7, 8, 9, 10, 11, 12, 13, 14, 15, 16} {
		t.Error(w)
	}
	if w := data.Words(api.Data{}); w != [16]uint32{} {
		t.Error(w)
	}
}

func TestWhereNoWordIs(t *testing.T) { // P3.2, R2
	for _, d := range []api.Data{{}, counted()} {
		for _, offset := range strange() {
			if x, e := data.Word(d, offset); e != api.ErrArg || x != 0 {
				t.Errorf("Word at %d: %#x, %d", offset, x, e)
			}
			for _, x := range []uint32{0, 9, math.MaxUint32} {
				if got, e := data.With(d, offset, x); e != api.ErrArg || got != (api.Data{}) {
					t.Errorf("With %#x at %d: %+v, %d", x, offset, got, e)
				}
			}
		}
	}
}

func TestWith(t *testing.T) { // P3.2
	for _, d := range samples() {
		for i := range 16 {
			for _, x := range []uint32{0, 1, 0x80, 0x01020304, 0x80000000, math.MaxUint32, wordAt(byDivision(d), 4*i)} {
				want := byDivision(d)
				for j := range 4 {
					want[4*i+j] = byte(x >> (8 * j))
				}
				got, e := data.With(d, uint32(4*i), x)
				if e != api.OK || !bytes.Equal(byDivision(got), want) {
					t.Errorf("With %#x at %d of %+v: %+v, %d", x, 4*i, d, got, e)
				}
			}
		}
	}
}

func TestWithWrittenOut(t *testing.T) { // P3.2
	for _, q := range []struct {
		offset uint32
		want   func(d *api.Data)
	}{
		{0, func(d *api.Data) { d.Nr = 0xA1B2C3D4 }},
		{4, func(d *api.Data) { d.Arch = 0xA1B2C3D4 }},
		{8, func(d *api.Data) { d.Ip = 0x100F0E0DA1B2C3D4 }},
		{12, func(d *api.Data) { d.Ip = 0xA1B2C3D40C0B0A09 }},
		{16, func(d *api.Data) { d.Args[0] = 0x18171615A1B2C3D4 }},
		{20, func(d *api.Data) { d.Args[0] = 0xA1B2C3D414131211 }},
		{56, func(d *api.Data) { d.Args[5] = 0x403F3E3DA1B2C3D4 }},
		{60, func(d *api.Data) { d.Args[5] = 0xA1B2C3D43C3B3A39 }},
	} {
		want := counted()
		q.want(&want)
		if got, e := data.With(counted(), q.offset, 0xA1B2C3D4); e != api.OK || got != want {
			t.Errorf("at %d: %+v, %d", q.offset, got, e)
		}
	}
}

func TestBothWays(t *testing.T) { // P3.3
	for _, d := range samples() {
		if back, e := data.Decode(data.Encode(d)); e != api.OK || back != d {
			t.Errorf("Decode of Encode of %+v: %+v, %d", d, back, e)
		}
	}
	b := make([]byte, api.DataBytes)
	for round := range 256 {
		for i := range b {
			b[i] = byte(i*(2*round+1) + round)
		}
		d, e := data.Decode(b)
		if got := data.Encode(d); e != api.OK || !bytes.Equal(got, b) {
			t.Errorf("Encode of Decode of % x: % x, %d", b, got, e)
		}
	}
}

func TestWordOfWith(t *testing.T) { // P3.3
	for _, d := range samples() {
		for offset := uint32(0); offset <= 60; offset += 4 {
			for _, x := range []uint32{0, 9, 0xC3D4E5F6, math.MaxUint32} {
				changed, e := data.With(d, offset, x)
				if e != api.OK {
					t.Fatal(offset, e)
				}
				if got, e := data.Word(changed, offset); e != api.OK || got != x {
					t.Errorf("Word of With %#x at %d of %+v: %#x, %d", x, offset, d, got, e)
				}
				old, _ := data.Word(d, offset)
				if back, e := data.With(changed, offset, old); e != api.OK || back != d {
					t.Errorf("put back at %d: %+v, %d, not %+v", offset, back, e, d)
				}
			}
		}
	}
}

func TestWhatTwoHaveInAllWords(t *testing.T) { // P3.3
	all := samples()
	for _, a := range all {
		for _, b := range all {
			if (data.Words(a) == data.Words(b)) != (a == b) {
				t.Errorf("%+v and %+v: the words are not the same just as the data are", a, b)
			}
		}
	}
	// Put word by word over another, a data's words make that data.
	for _, d := range all {
		made := counted()
		for i, x := range data.Words(d) {
			var e api.Errno
			if made, e = data.With(made, uint32(4*i), x); e != api.OK {
				t.Fatal(i, e)
			}
		}
		if made != d {
			t.Errorf("made of the words of %+v: %+v", d, made)
		}
	}
}

func TestWhatIsHandedInStays(t *testing.T) { // R3
	for _, n := range []int{0, 1, 63, 64, 65, 128} {
		b, memory := roomy(bytes.Repeat([]byte{0x5A}, n), 80)
		before := bytes.Clone(memory)
		data.Decode(b)
		if !bytes.Equal(memory, before) {
			t.Errorf("Decode of %d bytes has changed what it was handed", n)
		}
	}
}

func TestAnswersAreNewMemory(t *testing.T) { // R3
	b, again := data.Encode(counted()), data.Encode(counted())
	for i := range b[:cap(b)] {
		b[:cap(b)][i] = 0xEE
	}
	if !bytes.Equal(again, byDivision(counted())) || !bytes.Equal(data.Encode(counted()), again) {
		t.Errorf("two answers of Encode share memory: % x", again)
	}
	d, e := data.Decode(again)
	clear(again)
	if e != api.OK || d != counted() {
		t.Errorf("an answer of Decode stands in what was handed in: %+v, %d", d, e)
	}
}

func TestExamples(t *testing.T) { // the chapter's
	for _, q := range []struct {
		d      api.Data
		offset uint32
		want   uint32
		e      api.Errno
	}{
		{api.Data{Nr: 7}, 0, 7, api.OK},
		{api.Data{Nr: 7}, 4, 0, api.OK},
		{api.Data{Nr: 7}, 2, 0, api.ErrArg},
		{api.Data{Nr: 7}, 64, 0, api.ErrArg},
		{api.Data{Ip: 1<<32 + 5}, 8, 5, api.OK},
		{api.Data{Ip: 1<<32 + 5}, 12, 1, api.OK},
	} {
		if x, e := data.Word(q.d, q.offset); x != q.want || e != q.e {
			t.Errorf("Word of %+v at %d: %d, %d", q.d, q.offset, x, e)
		}
	}
	if d, e := data.With(api.Data{}, 16, 9); e != api.OK || d != (api.Data{Args: [6]uint64{9, 0, 0, 0, 0, 0}}) {
		t.Error(d, e)
	}
}
