package attach

import (
	"maps"
	"slices"

	"wicketgate/api"
	"wicketgate/chain"
	"wicketgate/cred"
)

// Check answers OK, if c may be; else ErrCage (P15.1).
func Check(c api.Cage) api.Errno {
	if chain.Check(c.Pool) != api.OK || !guardsRise(c) || !counted(c) {
		return api.ErrCage
	}
	return api.OK
}

// guardsRise says whether all guards may be, by rising Tids, and are no more than there may be threads.
func guardsRise(c api.Cage) bool {
	last := 0
	for _, g := range c.Guards {
		if !mayBe(g) || g.Tid <= last {
			return false
		}
		last = g.Tid
	}
	return len(c.Guards) <= api.MaxThreads
}

// mayBe says whether a guard may be, wherever its Head is.
func mayBe(g api.Guard) bool {
	return thread(g.Tid) && cred.Check(g.Cred) == api.OK && (g.Head != 0) == (g.Cred.Mode == api.ModeFilter)
}

// thread says whether tid is from 1 to MaxPid.
func thread(tid int) bool {
	return tid >= 1 && tid <= api.MaxPid
}

// counted says whether each Head is in the pool, and each filter counts just who refers to it. The pool may be: so each one counts somebody.
func counted(c api.Cage) bool {
	counts, refer := map[int]int{}, map[int]int{}
	for _, n := range c.Pool.Nodes {
		counts[n.Id] = n.Count
		refer[n.Parent]++
	}
	for _, g := range c.Guards {
		refer[g.Head]++
	}
	delete(refer, 0)
	return maps.Equal(counts, refer)
}

// Same says whether both are the same (P15.1).
func Same(a, b api.Cage) bool {
	return chain.Same(a.Pool, b.Pool) && slices.Equal(a.Guards, b.Guards)
}
