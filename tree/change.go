package tree

import (
	"slices"

	"armarium/api"
	"armarium/node"
)

// put lets a key of a leaf have a value.
func put(leaf *node.Node, key, val string) {
	at, is := leaf.Find(key)
	if is {
		leaf.Vals[at] = val
		return
	}
	leaf.Keys = slices.Insert(leaf.Keys, at, key)
	leaf.Vals = slices.Insert(leaf.Vals, at, val)
}

// drop lets a leaf have a key no more, and answers whether it had.
func drop(leaf *node.Node, key string) bool {
	at, is := leaf.Find(key)
	if is {
		leaf.Keys = slices.Delete(leaf.Keys, at, at+1)
		leaf.Vals = slices.Delete(leaf.Vals, at, at+1)
	}
	return is
}

// change lets the leaf of a key be another one, if do says that it is, and answers what do said.
func (w *walk) change(key string, do func(leaf *node.Node) bool) bool {
	said := false
	root := w.changeRoot(key, func(leaf *node.Node) bool {
		said = do(leaf)
		return said
	})
	w.Root = root // last, when all has gone well
	return said
}

// changeRoot answers which page is the root behind that.
func (w *walk) changeRoot(key string, do func(leaf *node.Node) bool) int {
	if w.Root == 0 {
		n := node.Node{Leaf: true}
		if !do(&n) {
			return 0
		}
		page := w.alloc()
		w.write(page, n)
		return page
	}
	n, other := w.below(w.Root, key, do)
	if !other {
		return w.Root
	}
	return w.top(w.Root, n)
}

// below does something to the leaf of a key, at a page or below it, and answers the page's node behind that, and whether that node is another one. It is not yet written: who asked sees to it that it is neither too full nor too empty.
func (w *walk) below(page int, key string, do func(leaf *node.Node) bool) (node.Node, bool) {
	n := w.read(page)
	if n.Leaf {
		other := do(&n)
		return n, other
	}
	at := n.Down(key)
	kid, other := w.below(n.Kids[at], key, do)
	if other {
		other = w.mend(&n, at, kid)
	}
	return n, other
}

// top writes the root that is another one now, and answers which page is the root behind that.
func (w *walk) top(page int, n node.Node) int {
	switch {
	case size(n) == 0:
		w.free(page)
		return 0
	case !n.Leaf && size(n) == 1:
		w.free(page)
		return n.Kids[0]
	case w.tooFull(n):
		above := node.Node{Kids: []int{page}}
		w.split(&above, 0, n, w.alloc())
		page, n = w.alloc(), above
	}
	w.write(page, n)
	return page
}

// mend writes a child that is another one now, and answers whether the node above it is another one for that.
func (w *walk) mend(above *node.Node, at int, kid node.Node) bool {
	switch {
	case w.tooFull(kid):
		w.split(above, at, kid, w.alloc())
	case !w.fullEnough(kid):
		w.join(above, at, kid)
	default:
		w.write(above.Kids[at], kid)
		return false
	}
	return true
}

// split writes a child as two: one half to its page, the other one to a page that becomes a child behind it.
func (w *walk) split(above *node.Node, at int, kid node.Node, page int) {
	left, key, right := halves(kid)
	w.write(above.Kids[at], left)
	w.write(page, right)
	above.Keys = slices.Insert(above.Keys, at, key)
	above.Kids = slices.Insert(above.Kids, at+1, page)
}

// join writes a child and the one beside it as one. If that is too full, they are two again, equally full: so each of them is full enough.
func (w *walk) join(above *node.Node, at int, kid node.Node) {
	at, kid, page := w.beside(above, at, kid)
	if w.tooFull(kid) {
		w.split(above, at, kid, page)
		return
	}
	w.write(above.Kids[at], kid)
	w.free(page)
}

// beside takes the child beside that one from the node above, and answers the place of the left one of both, both as one node, and the page of the right one.
func (w *walk) beside(above *node.Node, at int, kid node.Node) (int, node.Node, int) {
	left := min(at, len(above.Kids)-2) // the last child has none behind it
	a, b := kid, kid
	if at == left {
		b = w.read(above.Kids[left+1])
	} else {
		a = w.read(above.Kids[left])
	}
	must(a.Leaf == b.Leaf, api.ErrSpoilt)
	page, both := above.Kids[left+1], together(a, above.Keys[left], b)
	above.Keys = slices.Delete(above.Keys, left, left+1)
	above.Kids = slices.Delete(above.Kids, left+1, left+2)
	return left, both, page
}

// together answers two nodes as one. The key between two inner nodes goes in: it stands between their children, too.
func together(a node.Node, key string, b node.Node) node.Node {
	n := node.Node{Leaf: a.Leaf, Vals: slices.Concat(a.Vals, b.Vals), Kids: slices.Concat(a.Kids, b.Kids)}
	if n.Leaf {
		n.Keys = slices.Concat(a.Keys, b.Keys)
	} else {
		n.Keys = slices.Concat(a.Keys, []string{key}, b.Keys)
	}
	return n
}

// halves answers a node as two, and the key between them. Of an inner node that one stands in neither of them.
func halves(n node.Node) (node.Node, string, node.Node) {
	at := size(n) / 2
	if n.Leaf {
		left := node.Node{Leaf: true, Keys: n.Keys[:at], Vals: n.Vals[:at]}
		right := node.Node{Leaf: true, Keys: n.Keys[at:], Vals: n.Vals[at:]}
		return left, right.Keys[0], right
	}
	left := node.Node{Keys: n.Keys[:at-1], Kids: n.Kids[:at]}
	right := node.Node{Keys: n.Keys[at:], Kids: n.Kids[at:]}
	return left, n.Keys[at-1], right
}
