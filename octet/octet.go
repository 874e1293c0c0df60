// Package octet is layer 1: numbers as bytes, the lowest first, and a reader of such bytes (shared/doc/01-octet.md).
package octet

// Put16 answers b's bytes and behind them x's two, in new memory (P1.1).
func Put16(b []byte, x uint16) []byte {
	return put(b, uint64(x), 2)
}

// Put32 answers b's bytes and behind them x's four, in new memory (P1.1).
func Put32(b []byte, x uint32) []byte {
	return put(b, uint64(x), 4)
}

// Put64 answers b's bytes and behind them x's eight, in new memory (P1.1).
func Put64(b []byte, x uint64) []byte {
	return put(b, x, 8)
}

// put never appends to b itself: the room behind its end is the caller's.
func put(b []byte, x uint64, width int) []byte {
	longer := make([]byte, len(b)+width)
	copy(longer, b)
	for i := range width {
		longer[len(b)+i] = byte(x >> (8 * i))
	}
	return longer
}

// Add answers the bytes of the sum, as many as the longer one of a and b has (P1.2).
func Add(a, b []byte) []byte {
	width := max(len(a), len(b))
	sum := make([]byte, width)
	carry := uint16(0)
	for i := range width {
		carry += uint16(digit(a, i)) + uint16(digit(b, i))
		sum[i] = byte(carry)
		carry >>= 8
	}
	return sum
}

// digit is 0 behind b's end, as the shorter one of two numbers goes on there.
func digit(b []byte, i int) byte {
	if i >= len(b) {
		return 0
	}
	return b[i]
}
