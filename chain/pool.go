package chain

import (
	"slices"

	"wicketgate/api"
	"wicketgate/bitmap"
	"wicketgate/check"
)

// perFilter is what a filter counts in its chain beside its instructions.
const perFilter = 4

// Check answers OK, if p may be; else ErrPool (P9.1).
func Check(p api.Pool) api.Errno {
	if !idsRise(p) {
		return api.ErrPool
	}
	// A filter's Size is above its Parent's, so Parents that do not lead to 0 cannot all have their sizes.
	if _, wrong := first(slices.Values(p.Nodes), func(n api.Node) bool { return !stands(p, n) }); wrong {
		return api.ErrPool
	}
	return api.OK
}

// idsRise says whether the Ids rise, from 1 to MaxNodes.
func idsRise(p api.Pool) bool {
	last := 0
	for _, n := range p.Nodes {
		if n.Id <= last || n.Id > api.MaxNodes {
			return false
		}
		last = n.Id
	}
	return true
}

// stands says whether n may stand in p, whose Ids rise.
func stands(p api.Pool, n api.Node) bool {
	parent, there := row(p, n.Parent)
	if !there && n.Parent != 0 {
		return false
	}
	if _, e := check.Check(n.Program); e != api.OK {
		return false
	}
	return n.Size == size(n.Program, parent) && n.Size <= api.MaxChain && n.Count >= max(1, children(p, n.Id))
}

// size answers the Size of a filter of that program behind its Parent; a zero one, if it has none.
func size(program []api.Insn, parent api.Node) int {
	return len(program) + perFilter + parent.Size
}

// children answers how many filters have that Parent.
func children(p api.Pool, id int) int {
	count := 0
	for _, n := range p.Nodes {
		if n.Parent == id {
			count++
		}
	}
	return count
}

// Same says whether both are the same, row by row (P9.1).
func Same(a, b api.Pool) bool {
	return slices.EqualFunc(a.Nodes, b.Nodes, sameRow)
}

func sameRow(a, b api.Node) bool {
	return a.Id == b.Id && a.Parent == b.Parent && slices.Equal(a.Program, b.Program) &&
		a.Size == b.Size && a.Count == b.Count && a.One == b.One && a.Two == b.Two
}

// Honest says whether all filters have their own bits (P9.1).
func Honest(p api.Pool) (bool, api.Errno) {
	if e := Check(p); e != api.OK {
		return false, e
	}
	_, lies := first(slices.Values(p.Nodes), func(n api.Node) bool {
		one, two := bits(n.Program)
		return n.One != one || n.Two != two
	})
	return !lies, api.OK
}

// bits answers a program's bits of both architectures. It may be a filter: there is no error.
func bits(program []api.Insn) (one, two uint64) {
	one, _ = bitmap.Bits(program, api.ArchOne)
	two, _ = bitmap.Bits(program, api.ArchTwo)
	return one, two
}

// Find answers the filter of an Id, and true; a zero one and false, if there is none, or p may not be (P9.1).
func Find(p api.Pool, id int) (api.Node, bool) {
	if Check(p) != api.OK {
		return api.Node{}, false
	}
	n, there := row(p, id)
	return copied(n), there
}

// copied answers n in new memory.
func copied(n api.Node) api.Node {
	n.Program = slices.Clone(n.Program)
	return n
}
