package tree

import (
	"strings"

	"armarium/api"
	"armarium/node"
)

// A census is how many keys and pages there are at a page, and below it, and how deep its leaves are.
type census struct{ keys, pages, depth int }

// census answers that of a tree that is sound. A text of more bytes than a key has, of the greatest ones, is greater than each key.
func (w *walk) census() census {
	if w.Root == 0 {
		return census{}
	}
	n := w.read(w.Root)
	must(size(n) > 0, api.ErrSpoilt)
	return w.count(n, "", strings.Repeat("\xff", w.Shape.KW+1))
}

// count counts a node, whose keys, and all below, are none less than one, and all less than another one.
func (w *walk) count(n node.Node, least, above string) census {
	must(within(n, least, above), api.ErrSpoilt)
	if n.Leaf {
		return census{keys: len(n.Keys), pages: 1}
	}
	c := census{pages: 1}
	for i, kid := range n.Kids {
		from, to := least, above
		if i > 0 {
			from = n.Keys[i-1]
		}
		if i < len(n.Keys) {
			to = n.Keys[i]
		}
		x := w.countKid(kid, from, to)
		must(i == 0 || x.depth+1 == c.depth, api.ErrSpoilt)
		c = census{c.keys + x.keys, c.pages + x.pages, x.depth + 1}
	}
	return c
}

func (w *walk) countKid(page int, least, above string) census {
	n := w.read(page)
	must(w.fullEnough(n), api.ErrSpoilt)
	return w.count(n, least, above)
}

func within(n node.Node, least, above string) bool {
	less, _ := n.Find(least)
	all, _ := n.Find(above)
	return less == 0 && all == len(n.Keys)
}
