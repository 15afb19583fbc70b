package pages

import (
	"maps"

	"armarium/api"
	"armarium/bits"
)

// A change is pages that are others now. Its map says what the page 0 is now, also while that is none of them.
type change struct {
	pages batch
	used  bits.Map
}

// Page answers what a page is now.
func (s *Store) Page(i int) ([]byte, api.Errno) {
	if e := inOrder(s.is, s.hasPage(i), s.hasPower); e != api.OK {
		return nil, e
	}
	for _, b := range []batch{s.change.pages, s.late} {
		if p, ok := b[i]; ok {
			return p[:], api.OK
		}
	}
	b, e := s.disk.Read(sector(s.Sectors(), i))
	return b, s.hear(e)
}

// Put lets a page be another one.
func (s *Store) Put(i int, b []byte) api.Errno {
	if e := inOrder(s.is, s.hasPage(i), s.mayPut(i, b), s.hasPower); e != api.OK {
		return e
	}
	s.change.pages[i] = page(b)
	return api.OK
}

// Alloc lets the least page that is not used be used, and be bytes 0.
func (s *Store) Alloc() (int, api.Errno) {
	if e := inOrder(s.is, s.hasPower); e != api.OK {
		return 0, e
	}
	i, ok := s.change.used.Find()
	if !ok {
		return 0, api.ErrFull
	}
	s.change.use(i, true)
	s.change.pages[i] = page{}
	return i, api.OK
}

// Free lets a page be used no more.
func (s *Store) Free(i int) api.Errno {
	if e := inOrder(s.is, s.hasPage(i), s.mayFree(i), s.hasPower); e != api.OK {
		return e
	}
	s.change.use(i, false)
	return api.OK
}

// Used answers how many pages are used now.
func (s *Store) Used() int {
	if s == nil {
		return 0
	}
	return s.change.used.Used()
}

// Changed answers how many pages the change has.
func (s *Store) Changed() int {
	if s == nil {
		return 0
	}
	return len(s.change.pages)
}

// Commit lets all of the change be committed. One that never has room in the log is gone.
func (s *Store) Commit() api.Errno {
	if e := inOrder(s.is, s.hasPower); e != api.OK || s.Changed() == 0 {
		return e
	}
	text := s.change.pages.text()
	commit := func() api.Errno { return s.redo.Commit(text) }
	e := commit()
	if e == api.ErrFull {
		e = inOrder(s.Trim, commit)
	}
	if e == api.ErrLimit {
		s.Abort()
	}
	if e == api.OK {
		s.committed()
	}
	return s.hear(e)
}

// Abort lets there be no change.
func (s *Store) Abort() {
	if s != nil {
		s.change = change{batch{}, s.used}
	}
}

// committed keeps what the change says as what was committed.
func (s *Store) committed() {
	maps.Copy(s.late, s.change.pages)
	s.used = s.change.used
	s.Abort()
}

// use lets a page be used, or not, also on the page 0.
func (c *change) use(i int, used bool) {
	c.used = c.used.Set(i, used)
	c.pages[0] = page(c.used.Bytes())
}
