package cred_test

import (
	"slices"
	"testing"

	"wicketgate/api"
	"wicketgate/cred"
)

func TestExamples(t *testing.T) { // P11.1 to P11.4
	five := api.Cred{Uid: 5}
	held := api.Cred{Uid: 5, NoNew: true}
	strictly := api.Cred{Uid: 5, Mode: api.ModeStrict}
	root := api.File{SetUid: true}
	for i, x := range []struct{ got, want answer }{
		{of(cred.Drop(cred.First(), 5)), answer{cred: five}},
		{of(cred.Exec(five, root)), answer{cred: cred.First()}},
		{of(cred.NoNew(five)), answer{cred: held}},
		{of(cred.Exec(held, root)), answer{cred: held}},
		{of(cred.Filter(five)), refused(api.EACCES)},
		{of(cred.Filter(held)), answer{cred: api.Cred{Uid: 5, NoNew: true, Mode: api.ModeFilter}}},
		{of(cred.Strict(five)), answer{cred: strictly}},
		// EINVAL goes ahead of EACCES.
		{of(cred.Filter(strictly)), refused(api.EINVAL)},
		{of(cred.Drop(five, 6)), refused(api.EPERM)},
		// A file's owner counts, though the file is run as it is.
		{of(cred.Exec(five, api.File{Owner: 10})), refused(api.ErrArg)},
		{of(cred.Exec(held, api.File{Owner: -1, SetUid: true})), refused(api.ErrArg)},
		{of(cred.Exec(five, api.File{Owner: 9})), answer{cred: five}},
		{of(cred.Exec(cred.First(), api.File{Owner: 9, SetUid: true})), answer{cred: api.Cred{Uid: 9}}},
		// Who is no Admin does not become one by dropping to 0; who is Admin is none with another id, nor with the own one.
		{of(cred.Drop(api.Cred{}, 0)), answer{}},
		{of(cred.Drop(api.Cred{Uid: 5, Admin: true}, 5)), answer{cred: five}},
		{of(cred.Drop(api.Cred{Uid: 5, Admin: true}, 0)), answer{cred: cred.First()}},
		{of(cred.Drop(five, 10)), refused(api.ErrArg)},
		{of(cred.Drop(api.Cred{Uid: 10}, 10)), refused(api.ErrCred)},
		{of(cred.Exec(api.Cred{Mode: 3}, api.File{Owner: 10})), refused(api.ErrCred)},
		{of(cred.Strict(api.Cred{Mode: api.ModeFilter})), refused(api.EINVAL)},
	} {
		if x.got != x.want {
			t.Errorf("example %d: %v, not %v", i, x.got, x.want)
		}
	}
}

func TestCheckAndFirst(t *testing.T) { // P11.1
	if c := cred.First(); c != (api.Cred{Admin: true}) || cred.Check(c) != api.OK {
		t.Errorf("First: %v", c)
	}
	if l := all(); len(l) != 120 {
		t.Errorf("%d credentials that may be", len(l))
	}
	for _, c := range all() {
		if e := cred.Check(c); e != api.OK {
			t.Errorf("Check of %v: %d", c, e)
		}
	}
	for _, c := range broken() {
		if e := cred.Check(c); e != api.ErrCred {
			t.Errorf("Check of %v: %d", c, e)
		}
	}
	for n := -300; n <= 300; n++ {
		if is := cred.Check(api.Cred{Uid: n}) == api.OK; is != (n >= 0 && n <= 9) {
			t.Errorf("Check of Uid %d: %t", n, is)
		}
		if is := cred.Check(api.Cred{Mode: n}) == api.OK; is != (n >= 0 && n <= 2) {
			t.Errorf("Check of Mode %d: %t", n, is)
		}
	}
}

func TestExec(t *testing.T) { // P11.2
	for _, c := range slices.Concat(all(), broken()) {
		for _, f := range files() {
			holds(t, "Exec", c, of(cred.Exec(c, f)), exec(c, f))
		}
	}
}

func TestNoNew(t *testing.T) { // P11.2
	for _, c := range slices.Concat(all(), broken()) {
		holds(t, "NoNew", c, of(cred.NoNew(c)), noNew(c))
	}
}

func TestDrop(t *testing.T) { // P11.2
	for _, c := range slices.Concat(all(), broken()) {
		// The own id of those that may not be is asked, too.
		for _, uid := range slices.Concat(users(), strange, []int{c.Uid}) {
			holds(t, "Drop", c, of(cred.Drop(c, uid)), drop(c, uid))
		}
	}
}

func TestStrictAndFilter(t *testing.T) { // P11.3
	for _, c := range slices.Concat(all(), broken()) {
		holds(t, "Strict", c, of(cred.Strict(c)), strict(c))
		holds(t, "Filter", c, of(cred.Filter(c)), filter(c))
	}
}

func TestBelow(t *testing.T) { // P11.4
	for _, b := range all() {
		for _, a := range all() {
			if is, want := cred.Below(a, b), below(a, b); is != want {
				t.Errorf("Below of %v and %v: %t", a, b, is)
			}
		}
		for _, a := range broken() {
			if cred.Below(a, b) || cred.Below(b, a) || cred.Below(a, a) {
				t.Errorf("Below of %v and %v", a, b)
			}
		}
	}
	bad := broken()
	for i, a := range bad {
		if b := bad[len(bad)-1-i]; cred.Below(a, b) || cred.Below(b, a) {
			t.Errorf("Below of %v and %v", a, b)
		}
	}
}

func TestBelowByHand(t *testing.T) { // P11.4
	for _, x := range []struct {
		a, b api.Cred
		is   bool
	}{
		// Without NoNew a file may make anyone of it.
		{api.Cred{Uid: 3, Admin: true}, api.Cred{Uid: 5}, true},
		{api.Cred{Uid: 5, NoNew: true, Mode: api.ModeFilter}, api.Cred{Uid: 5}, true},
		{api.Cred{Uid: 5}, api.Cred{Uid: 5, NoNew: true}, false},
		{api.Cred{Uid: 6, NoNew: true}, api.Cred{Uid: 5, NoNew: true}, false},
		{api.Cred{Uid: 6, NoNew: true}, api.Cred{Uid: 5, Admin: true, NoNew: true}, true},
		{api.Cred{Uid: 5, Admin: true, NoNew: true}, api.Cred{Uid: 5, NoNew: true}, false},
		{api.Cred{Uid: 5, Admin: true, NoNew: true}, api.Cred{Uid: 5, Admin: true, NoNew: true}, true},
		{api.Cred{}, api.Cred{Mode: api.ModeStrict}, false},
		{api.Cred{Mode: api.ModeFilter}, api.Cred{Mode: api.ModeStrict}, false},
		{api.Cred{Mode: api.ModeStrict}, api.Cred{Mode: api.ModeFilter}, false},
		{api.Cred{Mode: api.ModeStrict}, api.Cred{}, true},
		{api.Cred{Uid: 10}, api.Cred{Uid: 10}, false},
		{api.Cred{Mode: 3}, api.Cred{Mode: 3}, false},
	} {
		if is := cred.Below(x.a, x.b); is != x.is {
			t.Errorf("Below of %v and %v: %t", x.a, x.b, is)
		}
	}
}

func TestWhatFollows(t *testing.T) { // P11.5
	most := 0
	for _, was := range all() {
		l := comesOf(was)
		most = max(most, len(l))
		for _, comes := range l {
			if cred.Check(comes) != api.OK || !cred.Below(comes, was) {
				t.Errorf("%v comes of %v", comes, was)
			}
			if was.NoNew && !comes.NoNew || was.Mode != api.ModeNone && comes.Mode != was.Mode {
				t.Errorf("%v comes of %v, that has been left", comes, was)
			}
			if was.NoNew && !was.Admin && (comes.Admin || comes.Uid != was.Uid) {
				t.Errorf("%v comes of %v, with NoNew", comes, was)
			}
		}
	}
	// Of the first ones: 0 as Admin, each other id as none, with and without NoNew, in each mode. Of others besides: the own id with the own Admin, so.
	if l := comesOf(cred.First()); len(l) != 10*2*3 || most != 10*2*3+2*3 {
		t.Error(len(l), most)
	}
}

func TestBelowOfBelow(t *testing.T) { // P11.4, P11.5
	l := all()
	for _, c := range l {
		if !cred.Below(c, c) {
			t.Errorf("%v is above itself", c)
		}
		for _, b := range l {
			if !cred.Below(b, c) {
				continue
			}
			for _, a := range l {
				if cred.Below(a, b) && !cred.Below(a, c) {
					t.Fatalf("%v is below %v, and that below %v", a, b, c)
				}
			}
		}
	}
}
