package judge

import (
	"iter"

	"wicketgate/api"
	"wicketgate/model"
)

// Find answers the order in which the calls of the history l go from m on; ErrNone, if there is none (P16.4).
func Find(m api.Model, l []api.Past) ([]int, api.Errno) {
	if e := model.Check(m); e != api.OK {
		return nil, e
	}
	if _, e := Check(l); e != api.OK {
		return nil, e
	}
	done := 0
	s := search{left: whole(l), mayDo: func() bool {
		done++
		return done <= api.MaxSearch
	}}
	if e := s.from(m); e != api.OK {
		return nil, e
	}
	return s.order, api.OK
}

// search is how far a search is: the calls that are left, the places of those that are done, and what counts each one ahead of it, and says whether it may be done.
type search struct {
	left  rest
	order []int
	mayDo func() bool
}

// from searches on from m: OK, if what is done is the order; ErrNone, if none comes of it, and all is as it was; ErrSearch, if the search is given up.
func (s *search) from(m api.Model) api.Errno {
	end := s.left.firstEnd()
	if end == 0 {
		return api.OK
	}
	for place, p := range s.left.begunBy(end) {
		if !s.mayDo() {
			return api.ErrSearch
		}
		next, e := behind(m, p)
		if e != api.OK {
			continue
		}
		delete(s.left, place)
		s.order = append(s.order, place)
		if e := s.from(next); e != api.ErrNone {
			return e
		}
		s.order = s.order[:len(s.order)-1]
		s.left[place] = p
	}
	return api.ErrNone
}

// rest is the calls of a history that are left, by their places.
type rest map[int]api.Past

// whole answers all calls of l.
func whole(l []api.Past) rest {
	r := rest{}
	for place, p := range l {
		r[place] = p
	}
	return r
}

// firstEnd answers the least end of the calls that ended; 0, if none did.
func (r rest) firstEnd() int {
	end := 0
	for _, p := range r {
		if ended(p) && (end == 0 || p.Ended < end) {
			end = p.Ended
		}
	}
	return end
}

// begunBy tells the calls that had begun by that end, by rising places: if it is the first end of all that are left, these are the ones that can be next.
func (r rest) begunBy(end int) iter.Seq2[int, api.Past] {
	return func(yield func(int, api.Past) bool) {
		for place := range api.MaxPast {
			p, is := r[place]
			if is && p.Begun <= end && !yield(place, p) {
				return
			}
		}
	}
}
