package node

import (
	"bytes"

	"armarium/api"
	"armarium/pack"
)

// A page says by one of these which node it is.
const (
	leaf  = 1
	inner = 2
)

// Put answers a node's page.
func (s Shape) Put(n Node) ([]byte, api.Errno) {
	if !s.May() || !s.has(n) {
		return nil, api.ErrArg
	}
	kind := uint64(inner)
	if n.Leaf {
		kind = leaf
	}
	p := pack.New().Put(1, kind).Put(1, 0).Put(2, uint64(len(n.Keys)))
	for _, kid := range n.Kids {
		p.Put(kidBytes, uint64(kid))
	}
	for i, key := range n.Keys {
		p.Text(key)
		if n.Leaf {
			p.Text(n.Vals[i])
		}
	}
	b, _ := p.Bytes() // the numbers of a node always go in
	return append(b, make([]byte, api.Sector-len(b))...), api.OK
}

// Take answers the node whose page that is. What is read is put again: what is put otherwise, or not at all, is no node's page.
func (s Shape) Take(b []byte) (Node, api.Errno) {
	if !s.May() {
		return Node{}, api.ErrArg
	}
	if len(b) != api.Sector {
		return Node{}, api.ErrForm
	}
	n := s.read(pack.Of(b))
	again, e := s.Put(n)
	if e != api.OK || !bytes.Equal(b, again) {
		return Node{}, api.ErrForm
	}
	return n, api.OK
}

// read reads what is a node only if the page is one's. No page has more keys than bytes, whatever it says.
func (s Shape) read(o *pack.Opener) Node {
	n := Node{Leaf: o.Take(1) == leaf}
	o.Take(1)
	keys := min(int(o.Take(2)), room)
	if !n.Leaf {
		for range keys + 1 {
			n.Kids = append(n.Kids, int(o.Take(kidBytes)))
		}
	}
	for range keys {
		n.Keys = append(n.Keys, o.Text(s.KW))
		if n.Leaf {
			n.Vals = append(n.Vals, o.Text(s.VW))
		}
	}
	return n
}
