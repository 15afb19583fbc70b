package boxes

import (
	"armarium/api"
	"armarium/record"
)

// Records answers a box's records.
func (s *Store) Records(i int) ([]record.Record, api.Errno) {
	x, e := s.State(i)
	if e != api.OK {
		return nil, e
	}
	room, e := s.room(i)
	if e != api.OK {
		return nil, e
	}
	l, e := record.Walk(room, x.Used)
	if e != api.OK {
		return nil, api.ErrSpoilt
	}
	return l, api.OK
}

// Read answers the hash and the data of the record at a place.
func (s *Store) Read(at Loc) (api.Hash, string, api.Errno) {
	l, e := s.Records(at.Box)
	if e != api.OK {
		return api.Hash{}, "", e
	}
	for _, r := range l {
		if r.At == at.Off && len(r.Data) == at.Len {
			return r.Hash, r.Data, api.OK
		}
	}
	return api.Hash{}, "", api.ErrSpoilt
}

// room answers the bytes of a box's room, used or not.
func (s *Store) room(i int) ([]byte, api.Errno) {
	var room []byte
	for n := range api.BoxRoom / api.Sector {
		b, e := s.disk.Read(s.roomSector(i, n))
		if e != api.OK {
			return nil, e
		}
		room = append(room, b...)
	}
	return room, api.OK
}

// roomSector answers where a sector of a box's room lies: behind the head's.
func (s *Store) roomSector(i, n int) int { return s.sector(i) + 1 + n }
