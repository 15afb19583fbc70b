package node_test

import (
	"fmt"
	"math/rand/v2"
	"testing"

	"armarium/node"
)

// P9.4

func TestNodesAndPagesAnswerEachOther(t *testing.T) {
	r := rand.New(rand.NewPCG(9, 3))
	for _, s := range allShapes() {
		for range 6 {
			n := someNode(r, s)
			page := wantPut(t, s, n)
			wantTake(t, s, page, n)
			m, _ := s.Take([]byte(page))
			wantPut(t, s, m)
		}
	}
}

// Of a node's page with one byte changed, wherever, is taken what the words tell; and what is taken has that page.
func TestPagesWithAByteChanged(t *testing.T) {
	r := rand.New(rand.NewPCG(9, 4))
	for _, s := range someShapes() {
		for range 6 {
			page := pageTold(someNode(r, s))
			for at := range 512 {
				for _, x := range []byte{page[at] + 1, page[at] - 1, page[at] ^ 128, byte(r.IntN(256))} {
					b := []byte(page)
					b[at] = x
					wantTold(t, fmt.Sprint("the byte ", at, " is ", x), s, string(b))
				}
			}
		}
	}
}

// A page of one shape is another shape's only if the words say so.
func TestPagesOfOtherShapes(t *testing.T) {
	r := rand.New(rand.NewPCG(9, 5))
	shapes := allShapes()
	for range 4000 {
		page := pageTold(someNode(r, shapes[r.IntN(len(shapes))]))
		wantTold(t, "another shape's", shapes[r.IntN(len(shapes))], page)
	}
}

// Whatever bytes they are, mostly with a head that may be.
func TestAnyPages(t *testing.T) {
	r := rand.New(rand.NewPCG(9, 6))
	for range 20000 {
		s := node.Shape{KW: 1 + r.IntN(4), VW: r.IntN(4)}
		b := []byte(zeros(512))
		b[0], b[3] = byte(1+r.IntN(2)), byte(r.IntN(7))
		for at := 4; at < 512 && r.IntN(30) != 0; at++ {
			b[at] = byte(r.IntN(4))
		}
		for range r.IntN(2) {
			b[r.IntN(512)] = byte(r.IntN(256))
		}
		wantTold(t, "any bytes", s, string(b))
	}
}

// Any node at all, of a few keys, values, children: it has a page if the words say so, and none else.
func TestAnyNodes(t *testing.T) {
	r := rand.New(rand.NewPCG(9, 7))
	good := 0
	for range 40000 {
		s := node.Shape{KW: 1 + r.IntN(2), VW: r.IntN(2)}
		n := anyNode(r, s)
		if isTold(s, n) {
			wantTake(t, s, wantPut(t, s, n), n)
			good++
		} else {
			wantNoPage(t, "no node", s, n)
		}
	}
	if good < 2000 || good > 38000 {
		t.Errorf("%d of 40000 nodes may be", good)
	}
}

// anyNode is mostly near one that may be.
func anyNode(r *rand.Rand, s node.Shape) node.Node {
	n := node.Node{Leaf: r.IntN(2) == 0}
	n.Keys = someKeys(r, s.KW, r.IntN(4))
	vals, kids := len(n.Keys), 0
	if !n.Leaf {
		vals, kids = 0, len(n.Keys)+1
	}
	switch r.IntN(8) {
	case 0:
		n.Keys = append(n.Keys, someText(r, r.IntN(4)))
	case 1:
		vals = r.IntN(4)
	case 2:
		kids = r.IntN(4)
	}
	for range vals {
		n.Vals = append(n.Vals, someText(r, near(r, s.VW)))
	}
	for range kids {
		n.Kids = append(n.Kids, near(r, 1+1022*r.IntN(2)))
	}
	return n
}

// near is mostly n itself.
func near(r *rand.Rand, n int) int {
	if r.IntN(16) == 0 {
		return max(0, n-1+r.IntN(3))
	}
	return n
}

// isTold says whether that is a node of the shape, as the words tell it.
func isTold(s node.Shape, n node.Node) bool {
	if n.Leaf && (len(n.Keys) > capTold(s.KW, s.VW) || len(n.Vals) != len(n.Keys) || len(n.Kids) > 0) {
		return false
	}
	if !n.Leaf && (len(n.Kids) < 2 || len(n.Kids) > fanTold(s.KW) || len(n.Keys)+1 != len(n.Kids) || len(n.Vals) > 0) {
		return false
	}
	for _, key := range n.Keys {
		if len(key) != s.KW {
			return false
		}
	}
	for _, val := range n.Vals {
		if len(val) != s.VW {
			return false
		}
	}
	for _, kid := range n.Kids {
		if kid < 1 || kid > 1023 {
			return false
		}
	}
	return rises(n.Keys)
}
