package vm_test

import (
	"math"
	"math/big"
	"testing"

	"wicketgate/vm"
)

// numbers answers ordinary numbers, and those beside which something changes or goes round.
func numbers() []uint32 {
	l := []uint32{}
	for x := range uint32(36) {
		l = append(l, x)
	}
	for _, x := range []uint32{1 << 8, 1 << 16, 1 << 24, 1 << 31, 0} {
		l = append(l, x-2, x-1, x+1)
	}
	return append(l, 1<<16, 1<<31, 63, 64, 65, 127, 128, 255, 256, 0xFFFF0001, 0x55555555, 0xAAAAAAAA, 0x12345678)
}

// some answers fewer of them, for those who ask much of each.
func some() []uint32 {
	return []uint32{0, 1, 2, 31, 32, 33, 64, 256, 1 << 16, 1<<31 - 1, 1 << 31, math.MaxUint32 - 1, math.MaxUint32, 0x12345678}
}

// round answers what is left of a number behind division by 2^32; it is not below 0.
func round(x *big.Int) uint32 {
	return uint32(new(big.Int).Mod(x, big.NewInt(1<<32)).Uint64())
}

// become answers what A becomes as the chapter's words tell it, by numbers that do not go round and bits one by one.
func become(what uint16, a, b uint32) (uint32, bool) {
	first, second := big.NewInt(int64(a)), big.NewInt(int64(b))
	z := new(big.Int)
	switch what {
	case 0x00:
		return round(z.Add(first, second)), true
	case 0x10:
		return round(z.Sub(first, second)), true
	case 0x20:
		return round(z.Mul(first, second)), true
	case 0x30:
		if b == 0 {
			return 0, false
		}
		return round(z.Div(first, second)), true
	case 0x40, 0x50, 0xa0:
		x := uint32(0)
		for i := range 32 {
			ones := a>>i%2 + b>>i%2
			if what == 0x40 && ones > 0 || what == 0x50 && ones == 2 || what == 0xa0 && ones == 1 {
				x += 1 << i
			}
		}
		return x, true
	case 0x60, 0x70:
		if b >= 32 {
			return 0, true
		}
		power := z.Exp(big.NewInt(2), second, nil)
		if what == 0x60 {
			return round(new(big.Int).Mul(first, power)), true
		}
		return round(new(big.Int).Div(first, power)), true
	case 0x80:
		return round(z.Neg(first)), true
	}
	return 0, false
}

// holds answers whether a test holds as the chapter's words tell it.
func holds(what uint16, a, b uint32) bool {
	switch what {
	case 0x10:
		return int64(a)-int64(b) == 0
	case 0x20:
		return int64(a)-int64(b) > 0
	case 0x30:
		return int64(a)-int64(b) >= 0
	case 0x40:
		common, _ := become(0x50, a, b)
		return common > 0
	}
	return false
}

// bits answers what the bits of 0xf0 of a code say.
func bits(op uint16) uint16 {
	return op / 16 % 16 * 16
}

func TestAlu(t *testing.T) { // P5.1
	for what := uint16(0); what < 0x100; what += 0x10 {
		for _, a := range numbers() {
			for _, b := range numbers() {
				want, there := become(what, a, b)
				if x, ok := vm.Alu(what, a, b); x != want || ok != there {
					t.Fatalf("Alu(%#x, %#x, %#x): %#x, %t, not %#x, %t", what, a, b, x, ok, want, there)
				}
			}
		}
	}
}

func TestHolds(t *testing.T) { // P5.1
	for what := uint16(0); what < 0x100; what += 0x10 {
		for _, a := range numbers() {
			for _, b := range numbers() {
				if ok := vm.Holds(what, a, b); ok != holds(what, a, b) {
					t.Fatalf("Holds(%#x, %#x, %#x): %t", what, a, b, ok)
				}
			}
		}
	}
}

func TestOtherBitsDoNotCount(t *testing.T) { // P5.1
	pairs := [][2]uint32{{0, 0}, {7, 3}, {3, 7}, {5, 5}, {9, 0}, {0, 9}, {1 << 31, 32}, {math.MaxUint32, 1}, {12, 10}}
	for i := range math.MaxUint16 + 1 {
		op := uint16(i)
		for _, p := range pairs {
			want, there := become(bits(op), p[0], p[1])
			if x, ok := vm.Alu(op, p[0], p[1]); x != want || ok != there {
				t.Fatalf("Alu(%#x, %d, %d): %#x, %t, not %#x, %t", op, p[0], p[1], x, ok, want, there)
			}
			if ok := vm.Holds(op, p[0], p[1]); ok != holds(bits(op), p[0], p[1]) {
				t.Fatalf("Holds(%#x, %d, %d): %t", op, p[0], p[1], ok)
			}
		}
	}
}

func TestAluWrittenOut(t *testing.T) { // P5.1
	for _, q := range []struct {
		op   uint16
		a, b uint32
		want uint32
		ok   bool
	}{
		{0x00, 3, 4, 7, true}, {0x00, math.MaxUint32, 2, 1, true},
		{0x10, 3, 4, math.MaxUint32, true}, {0x10, 4, 3, 1, true},
		{0x20, 6, 7, 42, true}, {0x20, 1 << 31, 2, 0, true}, {0x20, 0x10001, 0x10001, 0x20001, true},
		{0x30, 7, 2, 3, true}, {0x30, math.MaxUint32, 1, math.MaxUint32, true}, {0x30, 1 << 31, math.MaxUint32, 0, true},
		{0x30, 0, 5, 0, true}, {0x30, 7, 0, 0, false}, {0x30, 0, 0, 0, false},
		{0x40, 12, 10, 14, true}, {0x50, 12, 10, 8, true}, {0xa0, 12, 10, 6, true},
		{0x60, 1, 0, 1, true}, {0x60, 3, 31, 1 << 31, true}, {0x60, 1, 32, 0, true}, {0x60, 1, 33, 0, true}, {0x60, 1, math.MaxUint32, 0, true},
		{0x70, 1 << 31, 31, 1, true}, {0x70, math.MaxUint32, 4, 0x0FFFFFFF, true}, {0x70, math.MaxUint32, 32, 0, true}, {0x70, math.MaxUint32, 1 << 31, 0, true},
		{0x80, 0, 9, 0, true}, {0x80, 1, 9, math.MaxUint32, true}, {0x80, 1 << 31, 0, 1 << 31, true},
		{0x90, 7, 2, 0, false}, {0xb0, 7, 2, 0, false}, {0xc0, 7, 2, 0, false}, {0xd0, 7, 2, 0, false}, {0xe0, 7, 2, 0, false}, {0xf0, 7, 2, 0, false},
		// Whole codes: those of add.k, div.x, xor.x, and one with bits above.
		{0x04, 3, 4, 7, true}, {0x3c, 9, 0, 0, false}, {0xac, 12, 10, 6, true}, {0xff0f, 3, 4, 7, true}, {0xff9f, 3, 4, 0, false},
	} {
		if x, ok := vm.Alu(q.op, q.a, q.b); x != q.want || ok != q.ok {
			t.Errorf("Alu(%#x, %#x, %#x): %#x, %t, not %#x, %t", q.op, q.a, q.b, x, ok, q.want, q.ok)
		}
	}
}

func TestHoldsWrittenOut(t *testing.T) { // P5.1
	for _, q := range []struct {
		op   uint16
		a, b uint32
		want bool
	}{
		{0x00, 0, 0, false}, {0x00, 7, 3, false}, {0x05, 7, 7, false},
		{0x10, 7, 7, true}, {0x10, 7, 8, false}, {0x10, 0, 1 << 31, false}, {0x15, 0, 0, true},
		{0x20, 7, 6, true}, {0x20, 7, 7, false}, {0x20, 6, 7, false}, {0x20, math.MaxUint32, 0, true}, {0x20, 1, 1 << 31, false},
		{0x30, 7, 6, true}, {0x30, 7, 7, true}, {0x30, 6, 7, false}, {0x30, 1 << 31, 1, true}, {0x30, 0, math.MaxUint32, false},
		{0x40, 12, 10, true}, {0x40, 12, 3, false}, {0x40, 1 << 31, 1 << 31, true}, {0x40, math.MaxUint32, 0, false}, {0x4d, 1, 1, true},
		{0x50, 7, 7, false}, {0x60, 7, 6, false}, {0x80, 7, 7, false}, {0x90, 7, 7, false}, {0xf0, 7, 7, false}, {0xff5f, 7, 7, false}, {0xff1f, 7, 7, true},
	} {
		if ok := vm.Holds(q.op, q.a, q.b); ok != q.want {
			t.Errorf("Holds(%#x, %#x, %#x): %t", q.op, q.a, q.b, ok)
		}
	}
}
