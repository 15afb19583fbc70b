package record

import (
	"bytes"
	"strings"

	"armarium/api"
	"armarium/crc"
	"armarium/pack"
)

// mark is what a head's sector begins with.
const mark = "BOX1"

// boxWidth is as many bytes as a box's number has, and sumWidth as a checksum has.
const (
	boxWidth = 2
	sumWidth = 4
)

// greatestBox is the greatest number that goes into its bytes.
const greatestBox = 1<<(8*boxWidth) - 1

// Head is a box's: its number, how many bytes its records have, and their checksum.
type Head struct {
	Box, Used int
	Sum       uint32
}

// Seal answers the sector of a box's head.
func Seal(box int, records []byte) ([]byte, api.Errno) {
	if box < 0 || box > greatestBox || !mayUsed(len(records)) {
		return nil, api.ErrArg
	}
	return Head{Box: box, Used: len(records), Sum: crc.Sum(records)}.sector(), api.OK
}

// Take answers the head whose sector that is. What is read is put again, as a sector in which a single byte is another one is none's.
func Take(b []byte) (Head, api.Errno) {
	o := pack.Of(b)
	o.Text(len(mark))
	h := Head{Box: int(o.Take(boxWidth)), Used: int(o.Take(lenWidth)), Sum: uint32(o.Take(sumWidth))}
	if !mayUsed(h.Used) || !bytes.Equal(b, h.sector()) {
		return Head{}, api.ErrForm
	}
	return h, api.OK
}

// mayUsed says whether a box has room for so many bytes of records.
func mayUsed(n int) bool { return n <= api.BoxRoom }

// sector is what a head that may be says on the disk.
func (h Head) sector() []byte {
	p := pack.New().Text(mark).Put(boxWidth, uint64(h.Box)).Put(lenWidth, uint64(h.Used)).Put(sumWidth, uint64(h.Sum))
	said, _ := p.Bytes() // what a head has always goes in
	p.Text(strings.Repeat("\x00", api.Sector-sumWidth-len(said)))
	said, _ = p.Bytes()
	said, _ = p.Put(sumWidth, uint64(crc.Sum(said))).Bytes()
	return said
}
