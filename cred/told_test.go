package cred_test

import (
	"math"
	"slices"
	"testing"

	"wicketgate/api"
	"wicketgate/cred"
)

// strange are numbers that are no user's id, and no mode.
var strange = []int{math.MinInt, -1 << 32, -1<<32 + 1, -256, -10, -9, -2, -1, 10, 11, 19, 20, 256, 1 << 32, 1<<32 + 1, 1<<32 + 9, math.MaxInt}

// users answers the ids from 0 to 9.
func users() []int {
	return []int{0, 1, 2, 3, 4, 5, 6, 7, 8, 9}
}

// every answers the credentials of each of these ids with each of these modes.
func every(uids, modes []int) []api.Cred {
	var l []api.Cred
	for _, uid := range uids {
		for _, mode := range modes {
			for _, admin := range []bool{false, true} {
				c := api.Cred{Uid: uid, Admin: admin, Mode: mode}
				held := c
				held.NoNew = true
				l = append(l, c, held)
			}
		}
	}
	return l
}

// all answers all credentials that may be.
func all() []api.Cred {
	return every(users(), []int{0, 1, 2})
}

// broken answers credentials that may not be: by the id, by the mode, by both.
func broken() []api.Cred {
	modes := slices.Concat(strange, []int{3, 4, 5, 9})
	return slices.Concat(every(strange, []int{0, 1, 2}), every(users(), modes), every(strange, modes))
}

// files answers files of each of the ids, and of strange ones.
func files() []api.File {
	var l []api.File
	for _, owner := range slices.Concat(users(), strange) {
		l = append(l, api.File{Owner: owner}, api.File{Owner: owner, SetUid: true})
	}
	return l
}

// answer is what a call that takes credentials answers.
type answer struct {
	cred  api.Cred
	fault api.Errno
}

// of answers the two as one.
func of(c api.Cred, e api.Errno) answer {
	return answer{c, e}
}

// refused answers the answer of an error.
func refused(e api.Errno) answer {
	return answer{fault: e}
}

// among says whether n is one of the numbers from 0 to most.
func among(n, most int) bool {
	for i := 0; i <= most; i++ {
		if n == i {
			return true
		}
	}
	return false
}

// exec runs a file as the chapter's words tell it.
func exec(c api.Cred, f api.File) answer {
	switch {
	case !among(f.Owner, 9):
		return refused(2)
	case !f.SetUid, c.NoNew:
		return answer{cred: c}
	case f.Owner == 0:
		return answer{cred: api.Cred{Admin: true, Mode: c.Mode}}
	}
	return answer{cred: api.Cred{Uid: f.Owner, Mode: c.Mode}}
}

// drop drops to an id as the chapter's words tell it.
func drop(c api.Cred, uid int) answer {
	switch {
	case !among(uid, 9):
		return refused(2)
	case c.Admin && uid == 0:
		return answer{cred: api.Cred{Admin: true, NoNew: c.NoNew, Mode: c.Mode}}
	case c.Admin, c.Uid == uid:
		return answer{cred: api.Cred{Uid: uid, NoNew: c.NoNew, Mode: c.Mode}}
	}
	return refused(20)
}

// noNew tells NoNew as the chapter's words do.
func noNew(c api.Cred) answer {
	return answer{cred: api.Cred{Uid: c.Uid, Admin: c.Admin, NoNew: true, Mode: c.Mode}}
}

// strict tells Strict as the chapter's words do.
func strict(c api.Cred) answer {
	if c.Mode == 2 {
		return refused(21)
	}
	return answer{cred: api.Cred{Uid: c.Uid, Admin: c.Admin, NoNew: c.NoNew, Mode: 1}}
}

// filter tells Filter as the chapter's words do.
func filter(c api.Cred) answer {
	switch {
	case c.Mode == 1:
		return refused(21)
	case c.Admin, c.NoNew:
		return answer{cred: api.Cred{Uid: c.Uid, Admin: c.Admin, NoNew: c.NoNew, Mode: 2}}
	}
	return refused(22)
}

// implies says whether then is so, if when is.
func implies(when, then bool) bool {
	return !when || then
}

// below tells Below clause by clause as the chapter's words do. Both may be.
func below(a, b api.Cred) bool {
	return implies(b.NoNew, a.NoNew) &&
		implies(b.Mode != 0, a.Mode == b.Mode) &&
		implies(b.NoNew, a.Uid == b.Uid || b.Admin) &&
		implies(b.NoNew, implies(!b.Admin, !a.Admin))
}

// holds holds one answer against what the chapter's words say of the credentials; ErrCred goes ahead of it all.
func holds(t *testing.T, call string, c api.Cred, got, want answer) {
	t.Helper()
	if !among(c.Uid, 9) || !among(c.Mode, 2) {
		want = refused(210)
	}
	if got != want {
		t.Errorf("%s of %v: %v, not %v", call, c, got, want)
	}
}

// oneMore answers all that one call makes of credentials.
func oneMore(c api.Cred) []answer {
	l := []answer{of(cred.NoNew(c)), of(cred.Strict(c)), of(cred.Filter(c))}
	for _, f := range files() {
		l = append(l, of(cred.Exec(c, f)))
	}
	for _, uid := range slices.Concat(users(), strange) {
		l = append(l, of(cred.Drop(c, uid)))
	}
	return l
}

// comesOf answers all that comes of c by any calls, one behind the other, and c itself.
func comesOf(c api.Cred) []api.Cred {
	seen := map[api.Cred]bool{c: true}
	l := []api.Cred{c}
	for i := 0; i < len(l); i++ {
		for _, x := range oneMore(l[i]) {
			if x.fault == api.OK && !seen[x.cred] {
				seen[x.cred] = true
				l = append(l, x.cred)
			}
		}
	}
	return l
}
