package model

import (
	"slices"

	"wicketgate/api"
	"wicketgate/check"
	"wicketgate/cred"
	"wicketgate/task"
)

// Check answers OK, if m may be; else ErrModel (P14.1).
func Check(m api.Model) api.Errno {
	if task.Check(m.Tasks) != api.OK || !slices.Equal(gathered(m.Threads, tidOf), task.Live(m.Tasks)) {
		return api.ErrModel
	}
	if m.Next < 1 || m.Next > api.MaxNum || slices.ContainsFunc(m.Threads, func(x api.Confined) bool { return !mayBe(x, m.Next) }) {
		return api.ErrModel
	}
	if Nodes(m) > api.MaxNodes || !agree(m) {
		return api.ErrModel
	}
	return api.OK
}

// mayBe says whether a thread may be, but for its programs; its Nums are below next.
func mayBe(x api.Confined, next int) bool {
	return cred.Check(x.Cred) == api.OK && inMode(x) && Size(x.Filters) <= api.MaxChain && fall(x.Filters, next)
}

// inMode says whether a thread has filters just if its Mode is ModeFilter.
func inMode(x api.Confined) bool {
	return (len(x.Filters) > 0) == (x.Cred.Mode == api.ModeFilter)
}

// fall says whether the Nums of a list fall, from below next to 1.
func fall(l []api.Filter, next int) bool {
	for _, f := range l {
		if f.Num >= next {
			return false
		}
		next = f.Num
	}
	return next >= 1
}

// agree says whether all programs may be, and all from a Num on is the same wherever that stands. The Nums of each list fall.
func agree(m api.Model) bool {
	met := map[int][]api.Filter{}
	for _, x := range m.Threads {
		for at, f := range x.Filters {
			from := x.Filters[at:]
			if old, there := met[f.Num]; there {
				if !sameLists(old, from) {
					return false
				}
				// What stands behind it was asked when it was met.
				break
			}
			if wrong(f) {
				return false
			}
			met[f.Num] = from
		}
	}
	return true
}

// wrong says whether a filter's program may not be.
func wrong(f api.Filter) bool {
	_, e := check.Check(f.Program)
	return e != api.OK
}

// CheckCall answers OK, if c may be; else ErrCall (P14.1).
func CheckCall(c api.Call) api.Errno {
	switch c.Kind {
	case api.CallAttach:
		c.Flags, c.Bytes = 0, nil
	case api.CallDrop:
		c.Uid = 0
	case api.CallSys:
		c.Data = api.Data{}
	case api.CallExec:
		c.File = api.File{}
	}
	// What counts of its Kind may be anything: what is left now has to be zero.
	if c.Kind < api.CallAttach || c.Kind > api.CallWait || c.Flags != 0 || c.Uid != 0 || len(c.Bytes) > 0 || c.File != (api.File{}) || c.Data != (api.Data{}) {
		return api.ErrCall
	}
	return api.OK
}
