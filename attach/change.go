package attach

import (
	"slices"

	"wicketgate/api"
	"wicketgate/chain"
	"wicketgate/cred"
)

// Inherit answers c with a guard of to, which has what from has (P15.5).
func Inherit(c api.Cage, from, to int) (api.Cage, api.Errno) {
	return changed(c, func(q *api.Cage) {
		g := *guardOf(*q, from)
		insist(thread(to), api.ErrArg)
		insist(place(*q, to) < 0, api.ErrThere)
		insist(len(q.Guards) < api.MaxThreads, api.ErrFull)
		hold(q, g.Head)
		enter(q, g, to)
	})
}

// Leave answers c without the thread's guard (P15.5).
func Leave(c api.Cage, tid int) (api.Cage, api.Errno) {
	return changed(c, func(q *api.Cage) {
		g := *guardOf(*q, tid)
		remove(q, g)
		letGo(q, g.Head)
	})
}

// Rename answers c with to in the place of tid (P15.5).
func Rename(c api.Cage, tid, to int) (api.Cage, api.Errno) {
	return changed(c, func(q *api.Cage) {
		g := *guardOf(*q, tid)
		insist(thread(to), api.ErrArg)
		insist(to == tid || place(*q, to) < 0, api.ErrThere)
		remove(q, g)
		enter(q, g, to)
	})
}

// Set answers c with these credentials of the thread (P15.5).
func Set(c api.Cage, tid int, may api.Cred) (api.Cage, api.Errno) {
	return changed(c, func(q *api.Cage) {
		g := guardOf(*q, tid)
		comesToStrict := g.Cred.Mode == api.ModeNone && may.Mode == api.ModeStrict
		insist(cred.Check(may) == api.OK && (may.Mode == g.Cred.Mode || comesToStrict), api.ErrArg)
		g.Cred = may
	})
}

// enter lets g be a guard of the thread to, at its place.
func enter(q *api.Cage, g api.Guard, to int) {
	g.Tid = to
	at := 0
	for at < len(q.Guards) && q.Guards[at].Tid < to {
		at++
	}
	q.Guards = slices.Insert(q.Guards, at, g)
}

// remove takes g away.
func remove(q *api.Cage, g api.Guard) {
	q.Guards = slices.DeleteFunc(q.Guards, func(h api.Guard) bool { return h == g })
}

// hold takes a reference to a filter; none, if id is 0.
func hold(q *api.Cage, id int) {
	if id != 0 {
		q.Pool, _ = chain.Take(q.Pool, id)
	}
}

// letGo gives a reference to a filter back; none, if id is 0.
func letGo(q *api.Cage, id int) {
	if id != 0 {
		q.Pool, _, _ = chain.Give(q.Pool, id)
	}
}

// changed answers c as change leaves it; nothing, if c may not be, or change is refused.
func changed(c api.Cage, change func(q *api.Cage)) (api.Cage, api.Errno) {
	return unlessRefused(func() api.Cage {
		insist(Check(c) == api.OK, api.ErrCage)
		q := copied(c)
		change(&q)
		return q
	})
}

// copied answers c in new memory.
func copied(c api.Cage) api.Cage {
	c.Guards = slices.Clone(c.Guards)
	c.Pool.Nodes = slices.Clone(c.Pool.Nodes)
	for at := range c.Pool.Nodes {
		n := &c.Pool.Nodes[at]
		n.Program = slices.Clone(n.Program)
	}
	return c
}
