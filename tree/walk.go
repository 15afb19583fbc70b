package tree

import (
	"iter"

	"armarium/api"
	"armarium/node"
)

// A walk is one call's way through a tree.
type walk struct {
	*Tree
	left int // how many pages it may read yet
}

// walk begins one. It reads no page of a tree twice, so one that would read more pages than there are goes round in a spoilt tree.
func (t *Tree) walk() *walk {
	must(t != nil && t.S != nil, api.ErrNil)
	must(t.Shape.May(), api.ErrArg)
	return &walk{t, t.S.Pages()}
}

func (w *walk) isKey(key string) bool { return len(key) == w.Shape.KW }

func (w *walk) isVal(val string) bool { return len(val) == w.Shape.VW }

// read answers a page's node.
func (w *walk) read(page int) node.Node {
	b, e := w.S.Page(page)
	must(e != api.ErrArg, api.ErrSpoilt) // the number of no page came from the tree, not from who calls
	must(e == api.OK, e)
	must(w.left > 0, api.ErrSpoilt)
	w.left--
	n, e := w.Shape.Take(b)
	must(e == api.OK, api.ErrSpoilt)
	return n
}

// write lets a page be a node's. Only of a spoilt tree there come nodes that may not be.
func (w *walk) write(page int, n node.Node) {
	b, e := w.Shape.Put(n)
	must(e == api.OK, api.ErrSpoilt)
	e = w.S.Put(page, b)
	must(e == api.OK, e)
}

func (w *walk) alloc() int {
	page, e := w.S.Alloc()
	must(e == api.OK, e)
	return page
}

func (w *walk) free(page int) {
	e := w.S.Free(page)
	must(e == api.OK, e)
}

// get answers the entry of a key.
func (w *walk) get(key string) entry {
	if w.Root == 0 {
		return entry{}
	}
	n := w.read(w.Root)
	for !n.Leaf {
		n = w.read(n.Kids[n.Down(key)])
	}
	if at, is := n.Find(key); is {
		return entry{key, n.Vals[at], true}
	}
	return entry{}
}

// entries goes through the keys that are not less than one, and their values.
func (w *walk) entries(least string) iter.Seq2[string, string] {
	return func(yield func(key, val string) bool) {
		if w.Root != 0 {
			w.tell(w.Root, least, yield)
		}
	}
}

// tell tells what entries goes through at a page, and below it, and answers whether it is to go on.
func (w *walk) tell(page int, least string, yield func(key, val string) bool) bool {
	n := w.read(page)
	if !n.Leaf {
		for _, kid := range n.Kids[n.Down(least):] {
			if !w.tell(kid, least, yield) {
				return false
			}
		}
		return true
	}
	less, _ := n.Find(least)
	for i, key := range n.Keys[less:] {
		if !yield(key, n.Vals[less+i]) {
			return false
		}
	}
	return true
}

// size answers how many entries a leaf has, or how many children an inner node.
func size(n node.Node) int {
	if n.Leaf {
		return len(n.Keys)
	}
	return len(n.Kids)
}

// most answers how many of them go in.
func (w *walk) most(n node.Node) int {
	if n.Leaf {
		return w.Shape.Cap()
	}
	return w.Shape.Fan()
}

func (w *walk) tooFull(n node.Node) bool { return size(n) > w.most(n) }

func (w *walk) fullEnough(n node.Node) bool { return size(n) >= w.most(n)/2 }
