package bitmap

import (
	"iter"

	"wicketgate/api"
	"wicketgate/check"
	"wicketgate/insn"
	"wicketgate/vm"
)

// call is what is known of a call: the rest of its data is not.
type call struct {
	nr, arch uint32
}

// The class of codes that work A out: what the bits of classBits say.
const (
	classBits = 0x07
	classAlu  = 0x04
)

// onward tells the places to which x at the place i may go on from s, rising, each with the state that comes there.
func onward(x api.Insn, i int, s api.State, c call) iter.Seq2[int, api.State] {
	return func(yield func(int, api.State) bool) {
		then := behind(x, s, c)
		for _, place := range next(x, i, s) {
			if !yield(place, then) {
				return
			}
		}
	}
}

// next answers the places to which x at the place i may go on from s, rising.
func next(x api.Insn, i int, s api.State) []int {
	other := second(x, s)
	switch {
	case divides(x) && other == sure(0):
		return nil
	case !tests(x) || !s.A.Known || !other.Known:
		return check.Next(x, i)
	case vm.Holds(x.Code, s.A.Value, other.Value):
		return []int{i + 1 + int(x.Jt)}
	}
	return []int{i + 1 + int(x.Jf)}
}

// end answers what is known of what x may return from s.
func end(x api.Insn, s api.State) ending {
	switch name, _ := insn.Name(x.Code); {
	case name == "ret.k":
		return ending{Abs: sure(x.K), reached: true}
	case name == "ret.a":
		return ending{Abs: s.A, reached: true}
	case divides(x) && (!s.X.Known || s.X == sure(0)):
		return ending{Abs: sure(0), reached: true}
	}
	return ending{}
}

// behind answers what is known behind x, if it goes on from s.
func behind(x api.Insn, s api.State, c call) api.State {
	switch name, _ := insn.Name(x.Code); name {
	case "ld.abs":
		s.A = seen(x.K, c)
	case "ld.len":
		s.A = sure(api.DataBytes)
	case "ldx.len":
		s.X = sure(api.DataBytes)
	case "ld.imm":
		s.A = sure(x.K)
	case "ldx.imm":
		s.X = sure(x.K)
	case "ld.mem":
		s.A = s.Mem[x.K]
	case "ldx.mem":
		s.X = s.Mem[x.K]
	case "st":
		s.Mem[x.K] = s.A
	case "stx":
		s.Mem[x.K] = s.X
	case "tax":
		s.X = s.A
	case "txa":
		s.A = s.X
	default:
		if x.Code&classBits == classAlu {
			s.A = worked(x, s)
		}
	}
	return s
}

// seen answers what is known of the data's word at an offset.
func seen(offset uint32, c call) api.Abs {
	switch offset {
	case 0:
		return sure(c.nr)
	case 4:
		return sure(c.arch)
	}
	return api.Abs{}
}

// worked answers what is known of what A becomes by x.
func worked(x api.Insn, s api.State) api.Abs {
	other := second(x, s)
	if !s.A.Known || !other.Known {
		return api.Abs{}
	}
	a, ok := vm.Alu(x.Code, s.A.Value, other.Value)
	return api.Abs{Known: ok, Value: a}
}

// second answers what is known of the number by which A goes, or against which it is held.
func second(x api.Insn, s api.State) api.Abs {
	switch name, _ := insn.Name(x.Code); {
	case name == "neg":
		// It goes by A alone: whatever X is does not count.
		return s.A
	case insn.Form(x.Code) == api.FormK, insn.Form(x.Code) == api.FormTest:
		return sure(x.K)
	}
	return s.X
}

func tests(x api.Insn) bool {
	form := insn.Form(x.Code)
	return form == api.FormTest || form == api.FormTestX
}

// divides says whether x divides by X, which may be nought.
func divides(x api.Insn) bool {
	name, _ := insn.Name(x.Code)
	return name == "div.x"
}
