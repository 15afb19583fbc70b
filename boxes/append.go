package boxes

import (
	"armarium/api"
	"armarium/record"
)

// Append appends a record for a thing that is new, or only moved, within a change, and answers its place.
func (s *Store) Append(h api.Hash, data string, moved bool) (Loc, api.Errno) {
	if s == nil {
		return Loc{}, api.ErrNil
	}
	b, e := record.Put(h, data)
	if e != api.OK {
		return Loc{}, api.ErrArg
	}
	l, e := s.all()
	if e != api.OK {
		return Loc{}, e
	}
	to, e := l.target(len(b), moved)
	if e != api.OK {
		return Loc{}, e
	}
	w := writing{Store: s}
	if i, is := l.first(Open); is && i != to {
		w.seal(i, l[i])
	}
	w.add(to, l[to], b)
	if e := w.do(); e != api.OK {
		return Loc{}, e
	}
	return Loc{Box: to, Off: l[to].Used, Len: len(data)}, api.OK
}

// Shut seals the open box, within a change, and answers whether there is one.
func (s *Store) Shut() (bool, api.Errno) {
	l, e := s.all()
	if e != api.OK {
		return false, e
	}
	i, is := l.first(Open)
	if !is {
		return false, api.OK
	}
	w := writing{Store: s}
	w.seal(i, l[i])
	e = w.do()
	return e == api.OK, e
}

// target answers the box to which a record of so many bytes goes. The last free box is kept for what is moved: else no box could be emptied any more.
func (l states) target(bytes int, moved bool) (int, api.Errno) {
	free := l.count(Free)
	if !moved && free == 0 {
		return 0, api.ErrFull
	}
	if i, is := l.first(Open); is && l[i].Used+bytes <= api.BoxRoom {
		return i, api.OK
	}
	if free == 0 || !moved && free == 1 {
		return 0, api.ErrFull
	}
	i, _ := l.first(Free)
	return i, api.OK
}
