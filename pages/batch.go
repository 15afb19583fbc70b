package pages

import (
	"maps"
	"slices"

	"armarium/api"
	"armarium/bits"
	"armarium/disk"
	"armarium/pack"
)

// numberWidth is as many bytes as a page's number has, and how many pages there are.
const numberWidth = 2

type page [api.Sector]byte

// A batch is pages, by their numbers.
type batch map[int]page

// blank answers so many pages, of which the page 0 alone is used.
func blank(pages int) batch {
	b := batch{}
	for i := range pages {
		b[i] = page{}
	}
	m, _ := bits.New(pages) // who calls has asked whether there may be so many
	b[0] = page(m.Set(0, true).Bytes())
	return b
}

func (b batch) rising() []int { return slices.Sorted(maps.Keys(b)) }

// write lets pages lie on their sectors, behind a log of so many.
func (b batch) write(d *disk.Disk, log int) api.Errno {
	for _, i := range b.rising() {
		p := b[i]
		if e := d.Write(sector(log, i), p[:]); e != api.OK {
			return e
		}
	}
	return api.OK
}

// text answers the text by which a log tells pages.
func (b batch) text() string {
	p := pack.New()
	for _, i := range b.rising() {
		now := b[i]
		p.Put(numberWidth, uint64(i)).Text(string(now[:]))
	}
	text, _ := p.Bytes() // numbers of pages always go in
	return string(text)
}

// batchOf answers the pages that a text tells, of so many, if it tells any as text does.
func batchOf(text string, pages int) (batch, bool) {
	b := batch{}
	o := pack.Of([]byte(text))
	for o.Left() > 0 && o.Err() == api.OK {
		i, s := int(o.Take(numberWidth)), o.Text(api.Sector)
		if o.Err() == api.OK && i < pages {
			b[i] = page([]byte(s))
		}
	}
	// What did not stand in order, or is no page's, is not put again.
	return b, b.text() == text
}

// headNote answers the note of the log's head.
func headNote(pages int, note string) string {
	b, _ := pack.New().Put(numberWidth, uint64(pages)).Text(note).Bytes() // so many pages always go in
	return string(b)
}
