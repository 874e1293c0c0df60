package octet

import "wicketgate/api"

// window is what has not been looked at yet.
type window struct {
	rest []byte
}

// pass hands the next n bytes to use and moves behind them. It says false, and stays where it is, if there are fewer.
func (w *window) pass(n int, use func(seen []byte)) bool {
	// Lengths are compared, not places: a place and n added up might wrap round.
	if n > len(w.rest) {
		return false
	}
	use(w.rest[:n])
	w.rest = w.rest[n:]
	return true
}

// Reader looks at bytes through a window that moves on till it faults.
type Reader struct {
	window
	fault api.Errno
}

// Read answers a reader at the first byte of a copy of b (P1.3).
func Read(b []byte) *Reader {
	own := make([]byte, len(b))
	copy(own, b)
	return &Reader{window: window{rest: own}}
}

// look hands the next n bytes to use, or faults. One that has faulted hands out nothing more, so the first fault stays.
func (r *Reader) look(n int, use func(seen []byte)) {
	if r == nil || r.fault != api.OK {
		return
	}
	if n < 0 {
		r.fault = api.ErrArg
		return
	}
	if !r.pass(n, use) {
		r.fault = api.ErrShort
	}
}

func (r *Reader) number(width int) uint64 {
	x := uint64(0)
	r.look(width, func(seen []byte) {
		for i := range width {
			x |= uint64(seen[i]) << (8 * i)
		}
	})
	return x
}

// U8 answers the next byte; 0 beside a fault (P1.3).
func (r *Reader) U8() byte {
	return byte(r.number(1))
}

// U16 answers the next two bytes' number; 0 beside a fault (P1.3).
func (r *Reader) U16() uint16 {
	return uint16(r.number(2))
}

// U32 answers the next four bytes' number; 0 beside a fault (P1.3).
func (r *Reader) U32() uint32 {
	return uint32(r.number(4))
}

// U64 answers the next eight bytes' number; 0 beside a fault (P1.3).
func (r *Reader) U64() uint64 {
	return r.number(8)
}

// Raw answers the next n bytes, in new memory; nothing beside a fault (P1.3).
func (r *Reader) Raw(n int) []byte {
	var raw []byte
	r.look(n, func(seen []byte) {
		raw = make([]byte, len(seen))
		copy(raw, seen)
	})
	return raw
}

// Left answers how many bytes there are from the window on; 0 of nil (P1.4).
func (r *Reader) Left() int {
	if r == nil {
		return 0
	}
	return len(r.rest)
}

// Err answers by what the reader has faulted; ErrNil of nil (P1.4).
func (r *Reader) Err() api.Errno {
	if r == nil {
		return api.ErrNil
	}
	return r.fault
}
