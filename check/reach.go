package check

import (
	"cmp"
	"iter"

	"wicketgate/api"
	"wicketgate/insn"
)

// Next answers the places that come next of x at the place i, rising (P4.2).
func Next(x api.Insn, i int) []int {
	if i < 0 || i > api.MaxRow {
		return nil
	}
	switch form := insn.Form(x.Code); {
	case form < 0, returns(x):
		return nil
	case form == api.FormJump && x.K > api.MaxRow:
		return nil
	case form == api.FormJump:
		return []int{i + 1 + int(x.K)}
	case tests(x) && x.Jt != x.Jf:
		return []int{i + 1 + int(min(x.Jt, x.Jf)), i + 1 + int(max(x.Jt, x.Jf))}
	case tests(x):
		return []int{i + 1 + int(x.Jt)}
	}
	return []int{i + 1}
}

// Reach answers the places of l that are reached, rising (P4.2).
func Reach(l []api.Insn) ([]int, api.Errno) {
	if _, e := Check(l); e != api.OK {
		return nil, e
	}
	var places []int
	for place := range met(l) {
		places = append(places, place)
	}
	return places, api.OK
}

// Most answers how many steps l takes at most (P4.3).
func Most(l []api.Insn) (int, api.Errno) {
	if _, e := Check(l); e != api.OK {
		return 0, e
	}
	var steps []int
	for _, n := range met(l) {
		steps = append(steps, n)
	}
	// Each row of steps goes on to a return: the longest one ends there.
	return greatest(0, steps...), api.OK
}

// met tells the places of l that are reached, rising, each with the greatest number of steps that there is up to it. l may be a filter.
func met(l []api.Insn) iter.Seq2[int, int] {
	return func(yield func(int, int) bool) {
		steps := map[int]int{0: 1}
		for i, x := range l {
			n, reached := steps[i]
			if !reached {
				continue
			}
			if !yield(i, n) {
				return
			}
			// What comes next lies behind: nothing is put to a place that was told.
			for _, next := range Next(x, i) {
				steps[next] = greatest(steps[next], n+1)
			}
		}
	}
}

// greatest answers the greatest of all these.
func greatest[T cmp.Ordered](most T, others ...T) T {
	for _, x := range others {
		if x > most {
			most = x
		}
	}
	return most
}
