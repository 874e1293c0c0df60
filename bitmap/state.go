package bitmap

import "wicketgate/api"

// ending is what is known of what is returned, if anything may be.
type ending struct {
	api.Abs
	reached bool
}

// Join answers both states joined (P7.1).
func Join(a, b api.State) api.State {
	return join(plain(a), plain(b), bothStates)
}

// Fits says whether the state is reached, and the machine's numbers are what is known of them (P7.1).
func Fits(m api.Vm, s api.State) bool {
	if !s.Reached || !fits(m.A, s.A) || !fits(m.X, s.X) {
		return false
	}
	for i, x := range m.Mem {
		if !fits(x, s.Mem[i]) {
			return false
		}
	}
	return true
}

func fits(x uint32, known api.Abs) bool {
	return !known.Known || known == sure(x)
}

// sure is what is known of a number of which the value is known.
func sure(value uint32) api.Abs {
	return api.Abs{Known: true, Value: value}
}

// beginning is the state ahead of the place 0.
func beginning() api.State {
	s := api.State{Reached: true, A: sure(0), X: sure(0)}
	for i := range s.Mem {
		s.Mem[i] = sure(0)
	}
	return s
}

// join answers what is told of a and of b in one. What is not reached is all zero: then the other one is the answer.
func join[T comparable](a, b T, both func(a, b T) T) T {
	var unreached T
	switch {
	case a == unreached:
		return b
	case b == unreached:
		return a
	}
	return both(a, b)
}

// bothStates joins two states that are reached.
func bothStates(a, b api.State) api.State {
	joined := api.State{Reached: true, A: alike(a.A, b.A), X: alike(a.X, b.X)}
	for i := range joined.Mem {
		joined.Mem[i] = alike(a.Mem[i], b.Mem[i])
	}
	return joined
}

// bothEndings joins what is known of two words of which each may be returned.
func bothEndings(a, b ending) ending {
	return ending{Abs: alike(a.Abs, b.Abs), reached: true}
}

// alike answers what both know alike; else nothing.
func alike(a, b api.Abs) api.Abs {
	if a.Known && a == b {
		return a
	}
	return api.Abs{}
}

// plain answers s with zeros where nothing is known: a caller's state may have other things there, which are not to be answered.
func plain(s api.State) api.State {
	if !s.Reached {
		return api.State{}
	}
	return bothStates(s, s)
}
