package boxes

import (
	"armarium/api"
	"armarium/forest"
)

// Live lets a box have so many live bytes more, within a change.
func (s *Store) Live(i, by int) api.Errno {
	x, e := s.State(i)
	if e != api.OK {
		return e
	}
	if x.Kind == Free || by < -x.Live || by > x.Used-x.Live {
		return api.ErrArg
	}
	x.Live += by
	return s.put(i, x)
}

// Release lets a box be free, within a change. What lies in it stays till something is appended there.
func (s *Store) Release(i int) api.Errno {
	x, e := s.State(i)
	if e != api.OK {
		return e
	}
	if x.Kind != Sealed || x.Live != 0 {
		return api.ErrArg
	}
	_, e = s.forest.Delete(forest.Boxes, number(i))
	return e
}
