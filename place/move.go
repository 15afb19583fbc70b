package place

import (
	"armarium/api"
	"armarium/boxes"
	"armarium/forest"
)

// Move moves a hash, within a change.
func Move(s *boxes.Store, h api.Hash) api.Errno {
	return withPlace(s, h, func(at boxes.Loc) api.Errno {
		_, was, e := lies(s, at)
		if e != api.OK {
			return e
		}
		if was {
			return api.ErrArg
		}
		data, e := read(s, h, at)
		if e != api.OK {
			return e
		}
		if e := mayDie(s, at); e != api.OK {
			return e
		}
		return move(s, h, at, data)
	})
}

// move appends a hash's record once more. The old one stays, so that till the new place is settled the old one tells whose it is.
func move(s *boxes.Store, h api.Hash, at boxes.Loc, data string) api.Errno {
	to, e := s.Append(h, data, true)
	if e != api.OK {
		return e
	}
	if e := s.Forest().Put(forest.Moved, spot(at), spot(to)); e != api.OK {
		return e
	}
	return die(s, at)
}

// mayDie asks whether a record's bytes may be live no more. It is asked ahead of an append, which is not taken back.
func mayDie(s *boxes.Store, l boxes.Loc) api.Errno {
	x, e := s.State(l.Box)
	if e == api.OK && x.Live < size(l) {
		return api.ErrArg
	}
	return e
}

// Settle settles the first entry of the tree Moved, within a change, and answers whether there is one.
func Settle(s *boxes.Store) (bool, api.Errno) {
	from, to, is, e := s.Forest().From(forest.Moved, "", true)
	if e != api.OK || !is {
		return false, e
	}
	h, e := told(s, spotOf(from, 0))
	if e != api.OK {
		return false, e
	}
	e = withPlace(s, h, func(at boxes.Loc) api.Errno { return settle(s, h, at, from, to) })
	if e == api.ErrNone {
		e = api.ErrSpoilt // the hash came from the disk, not from who calls
	}
	return e == api.OK, e
}

// settle lets a hash have the place to which it was moved. An entry that is not of the hash's own place is none: another record would become the hash's.
func settle(s *boxes.Store, h api.Hash, at boxes.Loc, from, to string) api.Errno {
	if spot(at) != from {
		return api.ErrSpoilt
	}
	if e := Put(s, h, spotOf(to, at.Len)); e != api.OK {
		return e
	}
	_, e := s.Forest().Delete(forest.Moved, from)
	return e
}

// told answers the hash of the record that begins at a spot.
func told(s *boxes.Store, at boxes.Loc) (api.Hash, api.Errno) {
	l, e := s.Records(at.Box)
	if e != api.OK {
		return api.Hash{}, e
	}
	for _, r := range l {
		if r.At == at.Off {
			return r.Hash, api.OK
		}
	}
	return api.Hash{}, api.ErrSpoilt
}
