package chunk

import (
	"bytes"

	"armarium/api"
	"armarium/pack"
)

// A child of a directory says by one of these whether it is one.
const (
	isFile = 0
	isDir  = 1
)

// Put answers a chunk's bytes.
func Put(c Chunk) ([]byte, api.Errno) {
	if !c.may() {
		return nil, api.ErrArg
	}
	p := pack.New().Put(1, uint64(c.Kind))
	if c.leads() {
		p.Put(1, uint64(len(c.Kids)))
	}
	for _, k := range c.Kids {
		if c.Kind == Dir {
			putEntry(p, k)
		}
		p.Hash(k.Hash).Put(1, uint64(k.Height)).Put(4, uint64(k.Size))
	}
	return p.Text(c.Data).Bytes()
}

// putEntry puts what stands ahead of a directory's child.
func putEntry(p *pack.Packer, k Kid) {
	kind := uint64(isFile)
	if k.Dir {
		kind = isDir
	}
	p.Put(1, kind).Name(k.Name)
}

// Take answers the chunk whose bytes these are. What is read is put again: what is put otherwise, or not at all, are no chunk's bytes. More bytes than any chunk has are not even copied.
func Take(b []byte) (Chunk, api.Errno) {
	if len(b) > Most {
		return Chunk{}, api.ErrForm
	}
	c := read(pack.Of(b))
	again, e := Put(c)
	if e != api.OK || !bytes.Equal(b, again) {
		return Chunk{}, api.ErrForm
	}
	return c, api.OK
}

// read reads what is a chunk only if the bytes are one's.
func read(o *pack.Opener) Chunk {
	c := Chunk{Kind: uint8(o.Take(1))}
	if !c.leads() {
		c.Data = o.Text(o.Left())
		return c
	}
	for range o.Take(1) {
		c.Kids = append(c.Kids, readKid(o, c.Kind))
	}
	return c
}

// readKid reads a child of a chunk of that kind.
func readKid(o *pack.Opener, kind uint8) Kid {
	var k Kid
	if kind == Dir {
		k.Dir = o.Take(1) == isDir
		k.Name = o.Name()
	}
	k.Hash = o.Hash()
	k.Height = uint8(o.Take(1))
	k.Size = uint32(o.Take(4))
	return k
}
