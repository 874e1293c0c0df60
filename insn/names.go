package insn

import (
	"iter"

	"wicketgate/api"
)

// kind is what is known of a code.
type kind struct {
	code uint16
	name string
	form int
}

// kinds are the codes that a filter may have, rising: Codes tells them in this order.
var kinds = [...]kind{
	{0x00, "ld.imm", api.FormK},
	{0x01, "ldx.imm", api.FormK},
	{0x02, "st", api.FormMem},
	{0x03, "stx", api.FormMem},
	{0x04, "add.k", api.FormK},
	{0x05, "ja", api.FormJump},
	{0x06, "ret.k", api.FormK},
	{0x07, "tax", api.FormNone},
	{0x0c, "add.x", api.FormNone},
	{0x14, "sub.k", api.FormK},
	{0x15, "jeq.k", api.FormTest},
	{0x16, "ret.a", api.FormNone},
	{0x1c, "sub.x", api.FormNone},
	{0x1d, "jeq.x", api.FormTestX},
	{0x20, "ld.abs", api.FormWord},
	{0x24, "mul.k", api.FormK},
	{0x25, "jgt.k", api.FormTest},
	{0x2c, "mul.x", api.FormNone},
	{0x2d, "jgt.x", api.FormTestX},
	{0x34, "div.k", api.FormK},
	{0x35, "jge.k", api.FormTest},
	{0x3c, "div.x", api.FormNone},
	{0x3d, "jge.x", api.FormTestX},
	{0x44, "or.k", api.FormK},
	{0x45, "jset.k", api.FormTest},
	{0x4c, "or.x", api.FormNone},
	{0x4d, "jset.x", api.FormTestX},
	{0x54, "and.k", api.FormK},
	{0x5c, "and.x", api.FormNone},
	{0x60, "ld.mem", api.FormMem},
	{0x61, "ldx.mem", api.FormMem},
	{0x64, "lsh.k", api.FormK},
	{0x6c, "lsh.x", api.FormNone},
	{0x74, "rsh.k", api.FormK},
	{0x7c, "rsh.x", api.FormNone},
	{0x80, "ld.len", api.FormNone},
	{0x81, "ldx.len", api.FormNone},
	{0x84, "neg", api.FormNone},
	{0x87, "txa", api.FormNone},
	{0xa4, "xor.k", api.FormK},
	{0xac, "xor.x", api.FormNone},
}

// Codes tells the codes that a filter may have, rising, each with its name (P2.3).
func Codes() iter.Seq2[uint16, string] {
	return func(yield func(uint16, string) bool) {
		for i := range kinds {
			if !yield(kinds[i].code, kinds[i].name) {
				return
			}
		}
	}
}

// Name answers a code's name; nothing and false, if it is none of these (P2.3).
func Name(code uint16) (string, bool) {
	for c, name := range Codes() {
		if c == code {
			return name, true
		}
	}
	return "", false
}

// Code answers the code of a name; 0 and false, if it is none (P2.3).
func Code(name string) (uint16, bool) {
	for code, n := range Codes() {
		if n == name {
			return code, true
		}
	}
	return 0, false
}

// Form answers a code's form; -1, if it is none of these (P2.3).
func Form(code uint16) int {
	for i := range kinds {
		if kinds[i].code == code {
			return kinds[i].form
		}
	}
	return -1
}

// Bare answers x with noughts in what does not count by its form (P2.3).
func Bare(x api.Insn) api.Insn {
	switch Form(x.Code) {
	case api.FormNone:
		return api.Insn{Code: x.Code}
	case api.FormK, api.FormWord, api.FormMem, api.FormJump:
		return api.Insn{Code: x.Code, K: x.K}
	case api.FormTestX:
		return api.Insn{Code: x.Code, Jt: x.Jt, Jf: x.Jf}
	}
	return x
}
