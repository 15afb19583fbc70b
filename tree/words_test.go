package tree_test

import (
	"fmt"
	"maps"
	"math/rand/v2"
	"slices"
	"strings"
	"testing"

	"armarium/api"
	"armarium/disk"
	"armarium/node"
	"armarium/pages"
	"armarium/tree"
)

const (
	greatest = int(^uint(0) >> 1)
	lowest   = -greatest - 1
)

// The chapter's words, written anew.

// part is what there is at a page, and below it.
type part struct {
	keys, vals []string
	pages      []int
	depth      int
}

// partOf reads a part, and fails unless it is as the chapter says of a tree.
func partOf(t *testing.T, x *tree.Tree, page int, root bool) part {
	t.Helper()
	b, e := x.S.Page(page)
	want(t, fmt.Sprint("Page ", page), e, api.OK)
	n, e := x.Shape.Take(b)
	want(t, fmt.Sprint("Take of the page ", page), e, api.OK)
	least := 508 / (x.Shape.KW + x.Shape.VW) / 2
	if !n.Leaf {
		least = (508 + x.Shape.KW) / (x.Shape.KW + 2) / 2
	}
	if root {
		least = 1
	}
	if n.Leaf {
		if len(n.Keys) < least {
			t.Fatalf("the leaf %d has %d entries; want %d", page, len(n.Keys), least)
		}
		return part{n.Keys, n.Vals, []int{page}, 0}
	}
	if len(n.Kids) < least {
		t.Fatalf("the inner node %d has %d children; want %d", page, len(n.Kids), least)
	}
	p := part{pages: []int{page}}
	for i, kid := range n.Kids {
		k := partOf(t, x, kid, false)
		if i > 0 && k.depth+1 != p.depth {
			t.Fatalf("below %d leaves are not equally deep", page)
		}
		for _, key := range k.keys {
			if i > 0 && key < n.Keys[i-1] || i < len(n.Keys) && key >= n.Keys[i] {
				t.Fatalf("the key %q lies below the child %d of %d", key, i, page)
			}
		}
		p = part{append(p.keys, k.keys...), append(p.vals, k.vals...), append(p.pages, k.pages...), k.depth + 1}
	}
	return p
}

// all is the part of a whole tree.
func all(t *testing.T, x *tree.Tree) part {
	t.Helper()
	if x.Root == 0 {
		return part{}
	}
	return partOf(t, x, x.Root, true)
}

// usedPages are those that the page 0 says are used, but itself.
func usedPages(t *testing.T, s *pages.Store) []int {
	t.Helper()
	b, e := s.Page(0)
	want(t, "Page 0", e, api.OK)
	var l []int
	for i := 1; i < s.Pages(); i++ {
		if b[i/8]>>(i%8)&1 == 1 {
			l = append(l, i)
		}
	}
	return l
}

// The tests' helpers.

func want(t *testing.T, what string, got, want api.Errno) {
	t.Helper()
	if got != want {
		t.Fatalf("%s: %v; want %v", what, got, want)
	}
}

// newStore answers a store of so many pages, on a disk of its own.
func newStore(t *testing.T, n int) *pages.Store {
	t.Helper()
	d, e := disk.New(2 + 512 + n)
	want(t, "New", e, api.OK)
	want(t, "Format", pages.Format(d, 512, n, ""), api.OK)
	s, e := pages.Open(d)
	want(t, "Open", e, api.OK)
	return s
}

// A pair is a tree, and the map that it must be.
type pair struct {
	*tree.Tree
	m map[string]string
}

func newPair(s *pages.Store, shape node.Shape) *pair {
	return &pair{&tree.Tree{S: s, Shape: shape}, map[string]string{}}
}

func (p *pair) put(t *testing.T, key, val string) {
	t.Helper()
	want(t, "Put", p.Put(key, val), api.OK)
	p.m[key] = val
}

func (p *pair) drop(t *testing.T, key string) {
	t.Helper()
	_, was := p.m[key]
	got, e := p.Delete(key)
	if got != was || e != api.OK {
		t.Fatalf("Delete(%q): %v, %v; want %v", key, got, e, was)
	}
	delete(p.m, key)
}

// wantGet fails unless Get answers what the map has.
func (p *pair) wantGet(t *testing.T, key string) {
	t.Helper()
	val, is := p.m[key]
	if v, ok, e := p.Get(key); v != val || ok != is || e != api.OK {
		t.Fatalf("Get(%q): %q, %v, %v; want %q, %v", key, v, ok, e, val, is)
	}
}

// wantFrom fails unless From answers what the map has.
func (p *pair) wantFrom(t *testing.T, key string, also bool) {
	t.Helper()
	wantK, is := "", false
	for k := range p.m {
		if (k > key || also && k == key) && (!is || k < wantK) {
			wantK, is = k, true
		}
	}
	if k, v, ok, e := p.From(key, also); k != wantK || v != p.m[wantK] || ok != is || e != api.OK {
		t.Fatalf("From(%q, %v): %q, %q, %v, %v; want %q, %q, %v", key, also, k, v, ok, e, wantK, p.m[wantK], is)
	}
}

// wantMap fails unless the tree is sound, and is the map.
func (p *pair) wantMap(t *testing.T) part {
	t.Helper()
	x, keys := all(t, p.Tree), slices.Sorted(maps.Keys(p.m))
	if !slices.Equal(x.keys, keys) {
		t.Fatalf("the tree has the keys %.200q; want %.200q", x.keys, keys)
	}
	for i, key := range x.keys {
		if x.vals[i] != p.m[key] {
			t.Fatalf("the key %q has %q; want %q", key, x.vals[i], p.m[key])
		}
	}
	at := 0
	e := p.Each(func(key, val string) bool {
		if at >= len(keys) || key != keys[at] || val != p.m[key] {
			t.Fatalf("Each tells as the key %d: %q, %q", at, key, val)
		}
		at++
		return true
	})
	if e != api.OK || at != len(keys) {
		t.Fatalf("Each tells %d keys, %v; want %d", at, e, len(keys))
	}
	if k, n, e := p.Check(); k != len(keys) || n != len(x.pages) || e != api.OK {
		t.Fatalf("Check: %d, %d, %v; want %d, %d", k, n, e, len(keys), len(x.pages))
	}
	return x
}

// wantAlone fails unless moreover just the trees' pages are used.
func wantAlone(t *testing.T, s *pages.Store, l ...*pair) {
	t.Helper()
	var own []int
	for _, p := range l {
		own = append(own, p.wantMap(t).pages...)
	}
	slices.Sort(own)
	if used := usedPages(t, s); !slices.Equal(own, used) {
		t.Fatalf("the pages %v are used; want %v", used, own)
	}
}

// keyOf is a key of so many bytes that is greater, the greater its number is (of those that go in).
func keyOf(width, number int) string {
	b := make([]byte, width)
	for i := width - 1; i >= 0; i-- {
		b[i] = byte(number)
		number >>= 8
	}
	return string(b)
}

func valOf(shape node.Shape, number int) string { return keyOf(shape.VW, number*7919+1) }

// someKey is mostly of few unlike bytes, so that keys are often equal, or nearly.
func someKey(r *rand.Rand, width int) string {
	b := make([]byte, width)
	for i := range b {
		b[i] = "\x00\x01\x7f\x80\xff"[r.IntN(5)]
		if i == width-1 || i == 0 {
			b[i] = byte(r.IntN(256))
		}
	}
	return string(b)
}

// someShapes are the edges, and those of which the forest's trees are.
func someShapes() []node.Shape {
	return []node.Shape{
		{KW: 1}, {KW: 1, VW: 1}, {KW: 1, VW: 64}, {KW: 2}, {KW: 2, VW: 5}, {KW: 2, VW: 64}, {KW: 4, VW: 4}, {KW: 17, VW: 33}, {KW: 32, VW: 4},
		{KW: 32, VW: 5}, {KW: 32, VW: 6}, {KW: 33, VW: 4}, {KW: 40, VW: 33}, {KW: 63, VW: 64}, {KW: 64}, {KW: 64, VW: 38}, {KW: 64, VW: 64},
	}
}

// wrongShapes are shapes that may not be.
func wrongShapes() []node.Shape {
	l := []node.Shape{{}, {VW: 1}, {KW: 65}, {KW: 1, VW: 65}, {KW: 64, VW: 65}}
	for _, n := range []int{lowest, -1 << 32, -1, 66, 1 << 32, greatest} {
		l = append(l, node.Shape{KW: n}, node.Shape{KW: 1, VW: n}, node.Shape{KW: n, VW: n})
	}
	return l
}

// answers are what all calls of a tree answer.
type answers struct {
	what             string
	key, val         string
	is               bool
	keys, pages      int
	told             int
	e                api.Errno
	root, used, less int
}

// ask asks all calls of a tree, with these texts, and goes back to what was committed behind each of them.
func ask(x *tree.Tree, key, val string) []answers {
	var l []answers
	did := func(what string, do func(a *answers)) {
		a := answers{what: what}
		root := 0
		if x != nil {
			root = x.Root
		}
		do(&a)
		if x != nil {
			a.root, a.used, a.less = x.Root, x.S.Used(), x.S.Changed()
			x.S.Abort()
			x.Root = root
		}
		l = append(l, a)
	}
	did("Get", func(a *answers) { a.val, a.is, a.e = x.Get(key) })
	did("Put", func(a *answers) { a.e = x.Put(key, val) })
	did("Delete", func(a *answers) { a.is, a.e = x.Delete(key) })
	did("From", func(a *answers) { a.key, a.val, a.is, a.e = x.From(key, false) })
	did("From also", func(a *answers) { a.key, a.val, a.is, a.e = x.From(key, true) })
	did("Each", func(a *answers) {
		a.e = x.Each(func(key, val string) bool { a.told++; return true })
	})
	did("Each of none", func(a *answers) { a.e = x.Each(nil) })
	did("Check", func(a *answers) { a.keys, a.pages, a.e = x.Check() })
	return l
}

// wantNothing fails unless a call that answered an error answered nothing else.
func wantNothing(t *testing.T, a answers) {
	t.Helper()
	if a.e != api.OK && (a.key != "" || a.val != "" || a.is || a.keys != 0 || a.pages != 0) {
		t.Fatalf("%s answers more than an error: %+v", a.what, a)
	}
}

// wantAll fails unless all calls answer that error, and nothing else, and leave the store and the root as they were.
func wantAll(t *testing.T, x *tree.Tree, key, val string, e api.Errno) {
	t.Helper()
	root, used := 0, 0
	if x != nil {
		x.S.Abort()
		root, used = x.Root, x.S.Used()
	}
	for _, a := range ask(x, key, val) {
		wantNothing(t, a)
		wantE := e
		if a.what == "Each of none" {
			wantE = api.ErrNil
		}
		if a.e != wantE || a.told != 0 || a.root != root || a.used != used || a.less != 0 {
			t.Fatalf("%+v; want the error %v, the root %d, %d used", a, wantE, root, used)
		}
	}
}

// lay writes a node to a page of a store.
func lay(t *testing.T, x *tree.Tree, page int, n node.Node) {
	t.Helper()
	b, e := x.Shape.Put(n)
	want(t, "Put of a node", e, api.OK)
	want(t, "Put of a page", x.S.Put(page, b), api.OK)
}

// text is one of so many bytes.
func text(of string, width int) string { return strings.Repeat(of, width+1)[:width] }
