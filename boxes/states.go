package boxes

import (
	"iter"

	"armarium/api"
	"armarium/forest"
	"armarium/pack"
)

// Count answers how many boxes are of a kind.
func (s *Store) Count(kind uint8) (int, api.Errno) {
	l, e := s.all()
	return l.count(kind), e
}

// states are those of all boxes, by their numbers.
type states []State

// all answers the states of all boxes, or none if an entry is none's.
func (s *Store) all() (states, api.Errno) {
	if s == nil {
		return nil, api.ErrNil
	}
	if e := s.hasPower(); e != api.OK {
		return nil, e
	}
	l, met := make(states, s.boxes), api.OK
	e := s.forest.Each(forest.Boxes, func(key, val string) bool {
		met = l.take(key, val)
		return met == api.OK
	})
	if e == api.OK {
		e = met
	}
	if e != api.OK {
		return nil, e
	}
	return l, api.OK
}

// take sets the state that an entry tells.
func (l states) take(key, val string) api.Errno {
	i := int(pack.Of([]byte(key)).Take(boxWidth))
	x, e := stateOf(val)
	if e != api.OK || i >= len(l) {
		return api.ErrSpoilt
	}
	l[i] = x
	return api.OK
}

// of goes through the boxes of a kind, rising.
func (l states) of(kind uint8) iter.Seq[int] {
	return func(yield func(int) bool) {
		for i, x := range l {
			if x.Kind == kind && !yield(i) {
				return
			}
		}
	}
}

// first answers the box of a kind that has the least number, and whether there is one.
func (l states) first(kind uint8) (int, bool) {
	for i := range l.of(kind) {
		return i, true
	}
	return 0, false
}

func (l states) count(kind uint8) int {
	n := 0
	for range l.of(kind) {
		n++
	}
	return n
}
