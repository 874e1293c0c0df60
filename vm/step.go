package vm

import (
	"wicketgate/api"
	"wicketgate/data"
	"wicketgate/insn"
)

// The classes of codes: what the bits of classBits say.
const (
	classLd = iota
	classLdx
	classSt
	classStx
	classAlu
	classJump
	classRet
	classMove

	classBits = 0x07
)

// step answers the machine behind x, what x returns, and whether it does: the machine is as it was then. x may stand at m's place.
func step(x api.Insn, d api.Data, m api.Vm) (api.Vm, uint32, bool) {
	then := m
	then.Pc++
	switch x.Code & classBits {
	case classLd:
		then.A = loaded(x, d, m)
	case classLdx:
		then.X = loaded(x, d, m)
	case classSt:
		then.Mem[x.K] = m.A
	case classStx:
		then.Mem[x.K] = m.X
	case classAlu:
		a, ok := Alu(x.Code, m.A, second(x, m))
		if !ok {
			// Of those that may stand none but a division by an X of nought has nothing to answer.
			return m, 0, true
		}
		then.A = a
	case classJump:
		then.Pc += further(x, m)
	case classRet:
		return m, given(x, m), true
	case classMove:
		then.A, then.X = moved(x, m)
	}
	return then, 0, false
}

// loaded answers what a load puts into its register.
func loaded(x api.Insn, d api.Data, m api.Vm) uint32 {
	switch insn.Form(x.Code) {
	case api.FormWord:
		// A load that may stand lies within what is seen.
		word, _ := data.Word(d, x.K)
		return word
	case api.FormK:
		return x.K
	case api.FormMem:
		return m.Mem[x.K]
	}
	return api.DataBytes
}

// second answers the number by which A goes, or against which it is held.
func second(x api.Insn, m api.Vm) uint32 {
	switch insn.Form(x.Code) {
	case api.FormK, api.FormTest:
		return x.K
	}
	return m.X
}

// further answers by how much more than one a jump goes on.
func further(x api.Insn, m api.Vm) int {
	switch {
	case insn.Form(x.Code) == api.FormJump:
		return int(x.K)
	case Holds(x.Code, m.A, second(x, m)):
		return int(x.Jt)
	}
	return int(x.Jf)
}

// given answers what a return returns.
func given(x api.Insn, m api.Vm) uint32 {
	if insn.Form(x.Code) == api.FormK {
		return x.K
	}
	return m.A
}

// moved answers what A and X are behind a move from one to the other.
func moved(x api.Insn, m api.Vm) (intoA, intoX uint32) {
	if name, _ := insn.Name(x.Code); name == "tax" {
		return m.A, m.A
	}
	return m.X, m.X
}
