package wal

import (
	"strings"

	"armarium/api"
	"armarium/disk"
	"armarium/sheet"
)

// place answers the sector on which the sheet of a number lies.
func place(seq uint64, sectors int) int {
	return heads + int(seq%uint64(sectors))
}

// inPlace answers the sheets of a log that lie in their places, by their numbers.
func inPlace(d *disk.Disk, sectors int) (map[uint64]sheet.Sheet, api.Errno) {
	found := map[uint64]sheet.Sheet{}
	for at := heads; at < heads+sectors; at++ {
		b, e := d.Read(at)
		if e != api.OK {
			return nil, e
		}
		if s, e := sheet.Take(b); e == api.OK && place(s.Seq, sectors) == at {
			found[s.Seq] = s
		}
	}
	return found, api.OK
}

// behind answers the next number: behind all sheets, those of lost texts too, so that none of these is ever read as another text's.
func behind(found map[uint64]sheet.Sheet, first uint64) uint64 {
	for seq := range found {
		first = max(first, seq+1)
	}
	return first
}

// texts answers the texts of the sheets that stand one behind the other, from a number on.
func texts(found map[uint64]sheet.Sheet, seq uint64) []string {
	var all []string
reading:
	for {
		var text strings.Builder
		for {
			s, ok := found[seq]
			if !ok {
				break reading // what was read of this text is lost
			}
			seq++
			text.WriteString(s.Text)
			if s.Last {
				all = append(all, text.String())
				continue reading
			}
		}
	}
	return all
}

// put writes a text's sheets, from a number on, to their places.
func put(d *disk.Disk, sectors int, seq uint64, text string) api.Errno {
	for _, s := range sheet.Cut(seq, text) {
		b, e := sheet.Put(s)
		if e != api.OK {
			return e
		}
		if e := d.Write(place(s.Seq, sectors), b); e != api.OK {
			return e
		}
	}
	return d.Flush()
}
