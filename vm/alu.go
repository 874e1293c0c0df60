package vm

// The operations of two numbers, and of one: what a code's bits of 0xf0 say.
const (
	add = iota
	sub
	mul
	div
	or
	and
	lsh
	rsh
	neg
	_ // the remainder, which no filter may have
	xor
)

// The tests of two numbers: what a code's bits of 0xf0 say.
const (
	_ = iota // ja, which asks nothing
	jeq
	jgt
	jge
	jset
)

// parts is how many numbers the bits of 0xf0 may say.
const parts = 16

// part answers what a code's bits of 0xf0 say, as a number below parts.
func part(op uint16) uint16 {
	return op >> 4 % parts
}

// Alu answers what A becomes of a and b by the operation that op says, and true; 0 and false, if there is nothing (P5.1).
func Alu(op uint16, a, b uint32) (uint32, bool) {
	become := [parts]func() uint32{
		add: func() uint32 { return a + b },
		sub: func() uint32 { return a - b },
		mul: func() uint32 { return a * b },
		div: func() uint32 { return a / b },
		or:  func() uint32 { return a | b },
		and: func() uint32 { return a & b },
		// A shift by all places or more leaves nought.
		lsh: func() uint32 { return a << b },
		rsh: func() uint32 { return a >> b },
		neg: func() uint32 { return -a },
		xor: func() uint32 { return a ^ b },
	}
	which := part(op)
	if become[which] == nil || which == div && b == 0 {
		return 0, false
	}
	return become[which](), true
}

// Holds says whether what op asks holds of a and b (P5.1).
func Holds(op uint16, a, b uint32) bool {
	asked := [parts]func() bool{
		jeq:  func() bool { return a == b },
		jgt:  func() bool { return a > b },
		jge:  func() bool { return a >= b },
		jset: func() bool { return a&b != 0 },
	}
	ask := asked[part(op)]
	return ask != nil && ask()
}
