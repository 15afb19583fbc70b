package tree_test

import (
	"testing"

	"armarium/api"
	"armarium/node"
	"armarium/pages"
	"armarium/tree"
)

// no is whom nothing may be told.
func no(t *testing.T) func(key, val string) bool {
	return func(key, val string) bool { t.Fatalf("%q, %q are told", key, val); return true }
}

func TestNil(t *testing.T) {
	var none *tree.Tree
	wantAll(t, none, "ab", "cd", api.ErrNil)
	wantAll(t, none, "", "", api.ErrNil)
	shapes := append(wrongShapes(), node.Shape{KW: 2, VW: 2})
	for _, shape := range shapes {
		for _, root := range []int{0, 1, -1, greatest} {
			x := &tree.Tree{Shape: shape, Root: root}
			wantAll(t, x, "ab", "cd", api.ErrNil)
			wantAll(t, x, "abc", "", api.ErrNil)
			if x.Root != root {
				t.Fatalf("the root %d; want %d", x.Root, root)
			}
			want(t, "Each", x.Each(no(t)), api.ErrNil)
		}
	}
}

// A tree that has nobody to tell says so also where its shape may not be.
func TestNothingToTell(t *testing.T) {
	s := newStore(t, 64)
	for _, shape := range wrongShapes() {
		want(t, "Each", (&tree.Tree{S: s, Shape: shape}).Each(nil), api.ErrNil)
	}
	p := grown(t, node.Shape{KW: 2, VW: 2}, 10)
	want(t, "Each", p.Each(nil), api.ErrNil)
	p.S.Disk().Crash("")
	want(t, "Each", p.Each(nil), api.ErrNil)
	want(t, "Each", (&tree.Tree{S: s, Shape: p.Shape, Root: -1}).Each(nil), api.ErrNil)
}

// Errors go in order: a shape that may not be is one also of a dead disk, and of a root that is none.
func TestShapesThatMayNotBe(t *testing.T) {
	s := newStore(t, 64)
	for range 2 {
		for _, shape := range wrongShapes() {
			for _, root := range []int{0, 1, 64, -1} {
				x := &tree.Tree{S: s, Shape: shape, Root: root}
				wantAll(t, x, "", "", api.ErrArg)
				wantAll(t, x, "a", "", api.ErrArg)
				wantAll(t, x, text("k", 65), text("v", 65), api.ErrArg)
			}
		}
		s.Disk().Crash("")
	}
}

// wantArg fails unless Get, Put and Delete refuse a key of another width, and Put a value of another one.
func wantArg(t *testing.T, x *tree.Tree) {
	t.Helper()
	root, changed := x.Root, x.S.Changed()
	key, val := text("k", x.Shape.KW), text("v", x.Shape.VW)
	for _, width := range []int{0, 1, 2, 3, 4, 31, 33, 64, 65, 600} {
		if width != x.Shape.KW {
			v, is, e := x.Get(text("k", width))
			if want(t, "Get", e, api.ErrArg); v != "" || is {
				t.Fatalf("%q, %v", v, is)
			}
			want(t, "Put", x.Put(text("k", width), val), api.ErrArg)
			was, e := x.Delete(text("k", width))
			if want(t, "Delete", e, api.ErrArg); was {
				t.Fatal("Delete: true")
			}
		}
		if width != x.Shape.VW {
			want(t, "Put", x.Put(key, text("v", width)), api.ErrArg)
			want(t, "Put", x.Put(text("k", width), text("v", width)), api.ErrArg)
		}
	}
	if x.Root != root || x.S.Changed() != changed {
		t.Fatalf("the root %d; want %d; %d changed; want %d", x.Root, root, x.S.Changed(), changed)
	}
}

func TestTextsOfOtherWidths(t *testing.T) {
	for _, shape := range []node.Shape{{KW: 2, VW: 3}, {KW: 1}, {KW: 64, VW: 64}, {KW: 32, VW: 4}} {
		for _, keys := range []int{0, 1, 100} {
			p := grown(t, shape, min(keys, 120))
			wantArg(t, p.Tree)
			p.wantMap(t)
			p.S.Disk().Crash("")
			wantArg(t, p.Tree)
			wantArg(t, &tree.Tree{S: p.S, Shape: shape, Root: -1})
		}
	}
}

// What the store says of a dead disk, the tree says, for ever.
func TestDead(t *testing.T) {
	for _, keys := range []int{1, 13, 100} {
		p := grown(t, node.Shape{KW: 33, VW: 4}, keys)
		want(t, "Commit", p.S.Commit(), api.OK)
		p.S.Disk().Crash("")
		wantAll(t, p.Tree, keyOf(33, 2), "abcd", api.ErrDead)
		p.S.Disk().Start()
		wantAll(t, p.Tree, keyOf(33, 2), "abcd", api.ErrDead)
		wantAll(t, p.Tree, keyOf(33, 3), "abcd", api.ErrDead)
		s, e := pages.Open(p.S.Disk())
		want(t, "Open", e, api.OK)
		p.S = s
		wantAlone(t, s, p)
	}
	x := &tree.Tree{S: newStore(t, 64), Shape: node.Shape{KW: 1}}
	x.S.Disk().Crash("")
	if want(t, "Put", x.Put("a", ""), api.ErrDead); x.Root != 0 {
		t.Errorf("the root %d", x.Root)
	}
}

// fill puts keys till the store is full, each in a change of its own, and answers how many went in.
func fill(t *testing.T, p *pair) int {
	t.Helper()
	for i := range 10000 {
		key, val, root := keyOf(p.Shape.KW, i*37%10000), valOf(p.Shape, i), p.Root
		e := p.Put(key, val)
		if e == api.ErrFull {
			p.S.Abort()
			p.Root = root
			return i
		}
		want(t, "Put", e, api.OK)
		p.m[key] = val
		want(t, "Commit", p.S.Commit(), api.OK)
	}
	t.Fatal("the store is never full")
	return 0
}

// A Put for which pages are wanting is ErrFull; what needs none is done, and Delete never needs any.
func TestFull(t *testing.T) {
	for _, shape := range []node.Shape{{KW: 64, VW: 64}, {KW: 32, VW: 6}, {KW: 4, VW: 64}} {
		for _, n := range []int{64, 65, 66, 67} {
			p := newPair(newStore(t, n), shape)
			put := fill(t, p)
			wantAlone(t, p.S, p)
			if left := n - p.S.Used(); left > 2 || put < (n-4)*shape.Cap()/2 {
				t.Errorf("%v: %d keys, %d of %d pages are left", shape, put, left, n)
			}
			for e := api.OK; e == api.OK; _, e = p.S.Alloc() {
			}
			for key := range p.m {
				p.put(t, key, text("other", shape.VW))
			}
			p.wantMap(t)
			for i := range put {
				p.drop(t, keyOf(shape.KW, i*37%10000))
			}
			p.wantMap(t)
		}
	}
	s := newStore(t, 64)
	for range 63 {
		s.Alloc()
	}
	x := &tree.Tree{S: s, Shape: node.Shape{KW: 1, VW: 1}}
	if want(t, "Put", x.Put("a", "b"), api.ErrFull); x.Root != 0 {
		t.Errorf("the root %d", x.Root)
	}
}
