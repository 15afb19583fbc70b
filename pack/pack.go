// Package pack is layer 1: it puts numbers and texts as bytes of a fixed width, and reads them back.
package pack

import (
	"slices"

	"armarium/api"
)

// maxName is as many bytes as the one byte ahead of a name can tell.
const maxName = 255

// isWidth says whether numbers may have so many bytes.
func isWidth(width int) bool {
	return width == 1 || width == 2 || width == 4 || width == 8
}

// Packer has bytes, and puts more behind them.
type Packer struct {
	bytes []byte
	err   api.Errno
}

// New answers a packer without bytes.
func New() *Packer { return &Packer{} }

// Put puts a number, the highest byte first.
func (p *Packer) Put(width int, n uint64) *Packer {
	if !isWidth(width) || n>>(8*width) != 0 {
		return p.fail(api.ErrLimit)
	}
	var all [8]byte
	for i := range all {
		all[i] = byte(n >> (56 - 8*i))
	}
	return p.add(all[8-width:]...)
}

// Hash puts a hash's bytes.
func (p *Packer) Hash(h api.Hash) *Packer { return p.add(h[:]...) }

// Text puts a text's bytes.
func (p *Packer) Text(s string) *Packer { return p.add([]byte(s)...) }

// Name puts one byte that says how many bytes a text has, and these.
func (p *Packer) Name(s string) *Packer {
	if len(s) > maxName {
		return p.fail(api.ErrLimit)
	}
	return p.add(byte(len(s))).Text(s)
}

// Bytes answers all that was put, or none and the first error.
func (p *Packer) Bytes() ([]byte, api.Errno) {
	if p == nil {
		return nil, api.ErrNil
	}
	return slices.Clone(p.bytes), p.err
}

// add puts bytes, but of nil and behind an error none.
func (p *Packer) add(b ...byte) *Packer {
	if p != nil && p.err == api.OK {
		p.bytes = append(p.bytes, b...)
	}
	return p
}

// fail lets the first error stay; what was put ahead of it is not answered any more, so it goes.
func (p *Packer) fail(e api.Errno) *Packer {
	if p != nil && p.err == api.OK {
		p.bytes, p.err = nil, e
	}
	return p
}
