package chain

import (
	"slices"

	"wicketgate/api"
	"wicketgate/check"
)

// Add answers p with a filter of that program behind parent, and the filter's Id (P9.2).
func Add(p api.Pool, parent int, program []api.Insn) (api.Pool, int, api.Errno) {
	var n api.Node
	q, e := changed(p, func(q *api.Pool) (e api.Errno) {
		n, e = fresh(*q, parent, program)
		if e == api.OK {
			// All lesser Ids are there.
			q.Nodes = slices.Insert(q.Nodes, n.Id-1, n)
		}
		return e
	})
	return q, n.Id, e
}

// fresh answers the filter of that program that may be added behind parent to p.
func fresh(p api.Pool, parent int, program []api.Insn) (api.Node, api.Errno) {
	if _, e := check.Check(program); e != api.OK {
		return api.Node{}, e
	}
	ahead, there := row(p, parent)
	if !there && parent != 0 {
		return api.Node{}, api.ErrNone
	}
	id, free := leastFree(p)
	if !free || size(program, ahead) > api.MaxChain {
		return api.Node{}, api.ENOMEM
	}
	one, two := bits(program)
	return copied(api.Node{Id: id, Parent: parent, Program: program, Size: size(program, ahead), Count: 1, One: one, Two: two}), api.OK
}

// leastFree answers the least Id that is not there, and true; 0 and false, if all are.
func leastFree(p api.Pool) (int, bool) {
	return first(ids, func(id int) bool {
		_, there := row(p, id)
		return !there
	})
}

// ids tells all Ids that a filter may have, rising.
func ids(yield func(int) bool) {
	for i := range api.MaxNodes {
		if !yield(i + 1) {
			return
		}
	}
}

// Take answers p with one more reference to a filter (P9.3).
func Take(p api.Pool, id int) (api.Pool, api.Errno) {
	return changed(p, func(q *api.Pool) api.Errno {
		at := place(*q, id)
		if at < 0 {
			return api.ErrNone
		}
		q.Nodes[at].Count++
		return api.OK
	})
}

// Give answers p with one reference to a filter less, and the Ids that are gone by that, in their order (P9.3).
func Give(p api.Pool, id int) (api.Pool, []int, api.Errno) {
	var gone []int
	q, e := changed(p, func(q *api.Pool) api.Errno {
		n, there := row(*q, id)
		if !there || n.Count == children(*q, id) {
			return api.ErrNone
		}
		var stays int
		gone, stays = leaving(*q, id)
		q.Nodes = slices.DeleteFunc(q.Nodes, func(n api.Node) bool { return slices.Contains(gone, n.Id) })
		if at := place(*q, stays); at >= 0 {
			q.Nodes[at].Count--
		}
		return api.OK
	})
	return q, gone, e
}

// leaving answers the Ids that are gone by giving a reference to id back, in their order, and that of the first one behind them that stays, which has a reference less; 0, if none does.
func leaving(p api.Pool, id int) (gone []int, stays int) {
chain:
	for n := range upward(p, id) {
		switch n.Count {
		case 1:
			gone = append(gone, n.Id)
		default:
			stays = n.Id
			break chain
		}
	}
	return gone, stays
}

// place answers the place of the filter id in p; -1, if there is none.
func place(p api.Pool, id int) int {
	return slices.IndexFunc(p.Nodes, called(id))
}

// changed answers what change makes of a copy of p; nothing, if p may not be, or change tells an error.
func changed(p api.Pool, change func(q *api.Pool) api.Errno) (api.Pool, api.Errno) {
	if e := Check(p); e != api.OK {
		return api.Pool{}, e
	}
	var q api.Pool
	for _, n := range p.Nodes {
		q.Nodes = append(q.Nodes, copied(n))
	}
	if e := change(&q); e != api.OK {
		return api.Pool{}, e
	}
	return q, api.OK
}
