package asm

import (
	"iter"
	"strconv"
	"strings"

	"wicketgate/api"
	"wicketgate/insn"
)

// Parse answers the instructions whose lines text has, and 0; or an error, and the place where the first line begins that is wrong (P8.2).
func Parse(text string) ([]api.Insn, int, api.Errno) {
	if len(text) > api.MaxAsm {
		return nil, 0, api.ErrLong
	}
	var l []api.Insn
	wrong := -1
reading:
	for place, line := range lines(text) {
		line, ended := strings.CutSuffix(line, "\n")
		switch x, e := One(line); {
		case !ended, e != api.OK, len(l) == api.MaxRow:
			wrong = place
			break reading
		default:
			l = append(l, x)
		}
	}
	if wrong >= 0 {
		return nil, wrong, api.ErrAsm
	}
	return l, 0, api.OK
}

// lines tells the lines of text, each with the place where it begins and with the line feed behind it, which the last one may lack.
func lines(text string) iter.Seq2[int, string] {
	return func(yield func(int, string) bool) {
		place := 0
		for line := range strings.Lines(text) {
			if !yield(place, line) {
				return
			}
			place += len(line)
		}
	}
}

// One answers the instruction whose line this is (P8.2).
func One(line string) (api.Insn, api.Errno) {
	name, rest := part(line)
	code, known := insn.Code(name)
	if !known {
		return api.Insn{}, api.ErrAsm
	}
	x, counts := api.Insn{Code: code}, counted(code)
	fine := read(&rest, counts.K, &x.K) && read(&rest, counts.Jt, &x.Jt) && read(&rest, counts.Jf, &x.Jf)
	if !fine || rest != "" {
		return api.Insn{}, api.ErrAsm
	}
	return x, api.OK
}

// read takes a field's part off the front of rest, if the field counts; it says false, if rest does not begin with one.
func read[T uint8 | uint32](rest *string, counts T, field *T) bool {
	if counts == 0 {
		return true
	}
	// rest begins with a blank, or has ended: then there are no digits.
	digits, further := part(strings.TrimPrefix(*rest, " "))
	n, err := strconv.ParseUint(digits, 10, 64)
	// Written again the number has neither noughts ahead nor what is dropped where the field is narrower.
	if err != nil || strconv.FormatUint(uint64(T(n)), 10) != digits {
		return false
	}
	*field, *rest = T(n), further
	return true
}

// part answers what of text stands ahead of its first blank, and all from there on.
func part(text string) (first, rest string) {
	blank := strings.IndexByte(text, ' ')
	if blank < 0 {
		return text, ""
	}
	return text[:blank], text[blank:]
}
