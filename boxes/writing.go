package boxes

import (
	"slices"

	"armarium/api"
	"armarium/record"
)

// A step answers OK, or the error behind which no other step is taken.
type step func() api.Errno

// A writing is what is done when a record is appended, or a box sealed: steps that put states, and steps that write sectors.
type writing struct {
	*Store
	puts, writes []step
}

// seal lets a box be sealed.
func (w *writing) seal(i int, x State) {
	w.puts = append(w.puts, func() api.Errno { return w.put(i, State{Sealed, x.Used, x.Live}) })
	w.writes = append(w.writes, func() api.Errno { return w.writeHead(i, x.Used) })
}

// add lets a record's bytes stand behind a box's used ones.
func (w *writing) add(i int, x State, b []byte) {
	w.puts = append(w.puts, func() api.Errno { return w.put(i, State{Open, x.Used + len(b), x.Live + len(b)}) })
	w.writes = append(w.writes, func() api.Errno { return w.writeBytes(i, x.Used, b) })
}

// do puts all states, and then writes all sectors, so that the disk is left as it is where the forest refuses a state. Sectors are flushed, as they must be on the disk ahead of the change by which something leads there.
func (w *writing) do() api.Errno {
	if e := inOrder(w.puts); e != api.OK {
		return e
	}
	e := inOrder(append(slices.Clone(w.writes), w.disk.Flush))
	if e == api.ErrDead {
		// The forest has to hear of it: else a change that goes on when there is power again would be committed without its sectors.
		return w.hasPower()
	}
	return e
}

func inOrder(steps []step) api.Errno {
	for _, s := range steps {
		if e := s(); e != api.OK {
			return e
		}
	}
	return api.OK
}

// writeHead writes the head of a box's used bytes, whatever they are.
func (s *Store) writeHead(i, used int) api.Errno {
	room, e := s.room(i)
	if e != api.OK {
		return e
	}
	head, e := record.Seal(i, room[:used])
	if e != api.OK {
		return e
	}
	return s.disk.Write(s.sector(i), head)
}

// writeBytes writes the sectors in which bytes lie that stand at a place of a box's room. What else lies there stays.
func (s *Store) writeBytes(i, at int, b []byte) api.Errno {
	room, e := s.room(i)
	if e != api.OK {
		return e
	}
	copy(room[at:], b)
	for n := at / api.Sector; n*api.Sector < at+len(b); n++ {
		if e := s.disk.Write(s.roomSector(i, n), room[n*api.Sector:(n+1)*api.Sector]); e != api.OK {
			return e
		}
	}
	return api.OK
}
