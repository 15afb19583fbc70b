package pages

import "armarium/api"

// A step answers OK, or the error that the call then answers.
type step func() api.Errno

// inOrder takes steps till one of them answers an error. So each may lean on those ahead of it.
func inOrder(steps ...step) api.Errno {
	for _, s := range steps {
		if e := s(); e != api.OK {
			return e
		}
	}
	return api.OK
}

func (s *Store) is() api.Errno { return unless(s != nil, api.ErrNil) }

func (s *Store) hasPage(i int) step {
	return func() api.Errno { return unless(i >= 0 && i < s.Pages(), api.ErrArg) }
}

// mayPut asks of a page whether it may be those bytes. The page 0 is changed by Alloc and Free alone.
func (s *Store) mayPut(i int, b []byte) step {
	return func() api.Errno { return unless(i != 0 && len(b) == api.Sector, api.ErrArg) }
}

// mayFree asks of a page whether it is used, and not the page 0.
func (s *Store) mayFree(i int) step {
	return func() api.Errno { return unless(i != 0 && s.change.used.Has(i), api.ErrArg) }
}

// hasPower asks the disk also ahead of what could be told without it, so that a store is dead as soon as it is asked anything.
func (s *Store) hasPower() api.Errno {
	return s.hear(unless(!s.dead && s.disk.Alive(), api.ErrDead))
}

func unless(holds bool, e api.Errno) api.Errno {
	if holds {
		return api.OK
	}
	return e
}
