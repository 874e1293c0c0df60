package action

import (
	"iter"
	"slices"

	"wicketgate/api"
)

// Combine answers the verdict of the row l, and the place of the word that it is of; -1 of an empty row (P6.3).
func Combine(l []uint32) (api.Verdict, int) {
	return CombineSeq(slices.Values(l))
}

// CombineSeq answers the verdict of the row that l tells, and the place of the word that it is of; -1 of an empty row (P6.3).
func CombineSeq(l iter.Seq[uint32]) (api.Verdict, int) {
	word, place := lowest(l, Under)
	if place < 0 {
		return api.Verdict{Action: api.Allow}, place
	}
	return Split(word), place
}

// lowest answers the first of those told that no other one is under, and its place; -1, if nothing is told.
func lowest[T any](told iter.Seq[T], under func(a, b T) bool) (found T, place int) {
	place = -1
	// The caller's iterator may be nil or panic, and no call here does: what it told till then is what is told.
	defer func() { recover() }()
	at := 0
	for x := range told {
		if place < 0 || under(x, found) {
			found, place = x, at
		}
		at++
	}
	return found, place
}
