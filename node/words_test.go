package node_test

import (
	"fmt"
	"math/rand/v2"
	"slices"
	"strings"
	"testing"

	"armarium/api"
	"armarium/node"
)

const (
	greatest = int(^uint(0) >> 1)
	lowest   = -greatest - 1
)

// The chapter's words, written anew.

func mayTold(kw, vw int) bool { return kw >= 1 && kw <= 64 && vw >= 0 && vw <= 64 }

// capTold adds entries as long as they go into the bytes behind a page's head.
func capTold(kw, vw int) int {
	n := 0
	for used := kw + vw; used <= 508; used += kw + vw {
		n++
	}
	return n
}

// fanTold adds a child and a key, behind the first child.
func fanTold(kw int) int {
	n := 1
	for used := 2 + 2 + kw; used <= 508; used += 2 + kw {
		n++
	}
	return n
}

// rises says whether each one is less than the next one.
func rises(keys []string) bool {
	for i := range keys {
		if i > 0 && strings.Compare(keys[i-1], keys[i]) >= 0 {
			return false
		}
	}
	return true
}

// pageTold is the page of a node that may be.
func pageTold(n node.Node) string {
	b := []byte{2, 0, byte(len(n.Keys) >> 8), byte(len(n.Keys))}
	for _, kid := range n.Kids {
		b = append(b, byte(kid>>8), byte(kid))
	}
	if n.Leaf {
		b[0] = 1
	}
	for i, key := range n.Keys {
		b = append(b, key...)
		if n.Leaf {
			b = append(b, n.Vals[i]...)
		}
	}
	return string(b) + zeros(512-len(b))
}

// nodeTold is the node of a page of a shape that may be, if it is one's.
func nodeTold(s node.Shape, page string) (node.Node, bool) {
	if len(page) != 512 || page[0] != 1 && page[0] != 2 || page[1] != 0 {
		return node.Node{}, false
	}
	n, keys, at := node.Node{Leaf: page[0] == 1}, int(page[2])<<8|int(page[3]), 4
	if n.Leaf && keys > capTold(s.KW, s.VW) || !n.Leaf && (keys < 1 || keys+1 > fanTold(s.KW)) {
		return node.Node{}, false
	}
	for i := 0; !n.Leaf && i <= keys; i++ {
		kid := int(page[at])<<8 | int(page[at+1])
		if kid == 0 || kid >= 1024 {
			return node.Node{}, false
		}
		n.Kids = append(n.Kids, kid)
		at += 2
	}
	for range keys {
		n.Keys = append(n.Keys, page[at:at+s.KW])
		at += s.KW
		if n.Leaf {
			n.Vals = append(n.Vals, page[at:at+s.VW])
			at += s.VW
		}
	}
	return n, rises(n.Keys) && page[at:] == zeros(512-at)
}

func zeros(n int) string { return strings.Repeat("\x00", n) }

// The tests' helpers.

// same says whether two nodes are the same; lists without anything in them are.
func same(a, b node.Node) bool {
	return a.Leaf == b.Leaf && slices.Equal(a.Keys, b.Keys) && slices.Equal(a.Vals, b.Vals) && slices.Equal(a.Kids, b.Kids)
}

// copied shares nothing with the node.
func copied(n node.Node) node.Node {
	return node.Node{Leaf: n.Leaf, Keys: slices.Clone(n.Keys), Vals: slices.Clone(n.Vals), Kids: slices.Clone(n.Kids)}
}

// brief tells a node in short.
func brief(n node.Node) string {
	return fmt.Sprintf("leaf %v, %d keys %.40q, %d values, %d children %.20v", n.Leaf, len(n.Keys), n.Keys, len(n.Vals), len(n.Kids), n.Kids)
}

// allShapes are all that may be.
func allShapes() []node.Shape {
	var l []node.Shape
	for kw := 1; kw <= 64; kw++ {
		for vw := 0; vw <= 64; vw++ {
			l = append(l, node.Shape{KW: kw, VW: vw})
		}
	}
	return l
}

// someShapes are the edges, and those whose leaves, or inner nodes, fill a page wholly.
func someShapes() []node.Shape {
	return []node.Shape{
		{KW: 1}, {KW: 1, VW: 1}, {KW: 1, VW: 64}, {KW: 2}, {KW: 2, VW: 2}, {KW: 2, VW: 5}, {KW: 3, VW: 1}, {KW: 4, VW: 4},
		{KW: 17, VW: 33}, {KW: 32, VW: 4}, {KW: 32, VW: 5}, {KW: 32, VW: 6}, {KW: 33, VW: 4}, {KW: 49, VW: 64}, {KW: 63, VW: 64}, {KW: 64}, {KW: 64, VW: 64},
	}
}

// wrongShapes are shapes that may not be.
func wrongShapes() []node.Shape {
	var l []node.Shape
	for _, n := range []int{lowest, lowest + 1, -1 << 32, -65, -64, -2, -1, 65, 66, 128, 508, 512, 1 << 32, 1<<32 + 1, greatest - 1, greatest} {
		l = append(l, node.Shape{KW: n}, node.Shape{KW: n, VW: 1}, node.Shape{KW: 1, VW: n}, node.Shape{KW: 64, VW: n}, node.Shape{KW: n, VW: n}, node.Shape{KW: n, VW: -n})
	}
	return append(l, node.Shape{}, node.Shape{VW: 1}, node.Shape{VW: 64})
}

// keyOf is a key of so many bytes that is greater, the greater its number is (of those that go in).
func keyOf(width, number int) string {
	b := make([]byte, width)
	for i := width - 1; i >= 0; i-- {
		b[i] = byte(number)
		number >>= 8
	}
	return string(b)
}

// leafOf has so many entries, of keys that are no bytes 0.
func leafOf(s node.Shape, entries int) node.Node {
	n := node.Node{Leaf: true}
	for i := range entries {
		n.Keys = append(n.Keys, keyOf(s.KW, i+1))
		n.Vals = append(n.Vals, strings.Repeat(string([]byte{byte(255 - i)}), s.VW))
	}
	return n
}

// innerOf has so many children.
func innerOf(s node.Shape, kids int) node.Node {
	n := node.Node{}
	for i := range kids {
		n.Kids = append(n.Kids, 1+(i*341)%1023)
		if i > 0 {
			n.Keys = append(n.Keys, keyOf(s.KW, i))
		}
	}
	return n
}

// most is how many entries a full leaf of rising keys has: of keys of one byte there are not more than 256.
func most(s node.Shape) int {
	if s.KW == 1 {
		return min(255, capTold(s.KW, s.VW))
	}
	return capTold(s.KW, s.VW)
}

// someText is one of so many bytes, mostly of few unlike ones, so that texts are often equal, or nearly.
func someText(r *rand.Rand, width int) string {
	b := make([]byte, width)
	few := r.IntN(4) != 0
	for i := range b {
		b[i] = byte(r.IntN(256))
		if few {
			b[i] = "\x00\x01\x7f\x80\xff"[r.IntN(5)]
		}
	}
	return string(b)
}

// someKeys are at most so many, rising.
func someKeys(r *rand.Rand, width, n int) []string {
	var l []string
	for range n {
		l = append(l, someText(r, width))
	}
	slices.Sort(l)
	return slices.Compact(l)
}

// someNode is a node of the shape.
func someNode(r *rand.Rand, s node.Shape) node.Node {
	if r.IntN(2) == 0 {
		n := node.Node{Leaf: true, Keys: someKeys(r, s.KW, r.IntN(capTold(s.KW, s.VW)+1))}
		for range n.Keys {
			n.Vals = append(n.Vals, someText(r, s.VW))
		}
		return n
	}
	n := node.Node{Keys: someKeys(r, s.KW, 1+r.IntN(fanTold(s.KW)-1))}
	for range len(n.Keys) + 1 {
		n.Kids = append(n.Kids, 1+r.IntN(1023))
	}
	return n
}

// wantPut fails unless a node has the page that is told.
func wantPut(t *testing.T, s node.Shape, n node.Node) string {
	t.Helper()
	b, e := s.Put(n)
	if e != api.OK || string(b) != pageTold(n) {
		t.Fatalf("%v: %s: the page % x, error %d; want % x", s, brief(n), b, e, pageTold(n))
	}
	return string(b)
}

// wantNoPage fails unless a node of the shape may not be.
func wantNoPage(t *testing.T, what string, s node.Shape, n node.Node) {
	t.Helper()
	if b, e := s.Put(n); e != api.ErrArg || len(b) != 0 {
		t.Errorf("%v: %s: %s: the page % x, error %d; want none, error %d", s, what, brief(n), b, e, api.ErrArg)
	}
}

// wantTake fails unless a page is that node's.
func wantTake(t *testing.T, s node.Shape, page string, n node.Node) {
	t.Helper()
	if m, e := s.Take([]byte(page)); e != api.OK || !same(m, n) {
		t.Fatalf("%v: of the page % x: %s, error %d; want %s", s, page, brief(m), e, brief(n))
	}
}

// wantNoNode fails unless a page is none's.
func wantNoNode(t *testing.T, what string, s node.Shape, page string, want api.Errno) {
	t.Helper()
	if m, e := s.Take([]byte(page)); e != want || m.Leaf || m.Keys != nil || m.Vals != nil || m.Kids != nil {
		t.Fatalf("%v: %s: of the page % x: %s, error %d; want none, error %d", s, what, page, brief(m), e, want)
	}
}

// wantTold fails unless of a page is taken just what is told.
func wantTold(t *testing.T, what string, s node.Shape, page string) {
	t.Helper()
	if n, ok := nodeTold(s, page); ok {
		wantTake(t, s, page, n)
	} else {
		wantNoNode(t, what, s, page, api.ErrForm)
	}
}
