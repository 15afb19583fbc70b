package pages

import (
	"armarium/api"
	"armarium/bits"
	"armarium/pack"
)

// An opening is a store that is not yet one. All is read ahead of what is written, as a disk with something spoilt is left as it is.
type opening struct {
	*Store
	texts   []string
	batches []batch // the texts' pages
}

// readNote reads what the log's head says of the pages. None is used yet.
func (o *opening) readNote() api.Errno {
	p := pack.Of([]byte(o.redo.Note()))
	pages := int(p.Take(numberWidth)) // 0, which may not be, of a note that is too short
	o.note = p.Text(p.Left())
	if !mayPages(pages) || !mayNote(o.note) || sector(o.Sectors(), pages) > o.disk.Len() {
		return api.ErrSpoilt
	}
	var e api.Errno
	o.used, e = bits.New(pages)
	return e
}

func (o *opening) readTexts() api.Errno {
	for _, text := range o.texts {
		b, ok := batchOf(text, o.Pages())
		if !ok {
			return api.ErrSpoilt
		}
		o.batches = append(o.batches, b)
	}
	return api.OK
}

// readMap reads the page 0, as it is behind all texts.
func (o *opening) readMap() api.Errno {
	b, e := o.disk.Read(sector(o.Sectors(), 0))
	if e != api.OK {
		return e
	}
	for _, told := range o.batches {
		if p, ok := told[0]; ok {
			b = p[:]
		}
	}
	m, e := bits.Take(b, o.Pages())
	if e != api.OK || !m.Has(0) {
		return api.ErrSpoilt
	}
	o.used = m
	return api.OK
}

func (o *opening) writeTexts() api.Errno {
	for _, b := range o.batches {
		if e := b.write(o.disk, o.Sectors()); e != api.OK {
			return e
		}
	}
	return api.OK
}
