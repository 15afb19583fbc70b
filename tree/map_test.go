package tree_test

import (
	"fmt"
	"math/rand/v2"
	"slices"
	"testing"

	"armarium/api"
	"armarium/node"
	"armarium/pages"
	"armarium/tree"
)

// P10.1, P10.4

func TestTheChaptersExample(t *testing.T) {
	orders := map[string]func(i int) int{
		"rising":  func(i int) int { return i },
		"falling": func(i int) int { return 13 - i },
		"mixed":   func(i int) int { return i * 5 % 14 },
	}
	for name, order := range orders {
		s := newStore(t, 64)
		p := newPair(s, node.Shape{KW: 33, VW: 4})
		for i := range 13 {
			p.put(t, keyOf(33, order(i)), "abcd")
		}
		if x := p.wantMap(t); len(x.pages) != 1 {
			t.Fatalf("%s: 13 keys on the pages %v", name, x.pages)
		}
		p.put(t, keyOf(33, order(13)), "abcd")
		if x := p.wantMap(t); len(x.pages) != 3 || x.depth != 1 {
			t.Fatalf("%s: 14 keys on the pages %v", name, x.pages)
		}
		b, _ := s.Page(p.Root)
		root, _ := p.Shape.Take(b)
		for _, kid := range root.Kids {
			if leaf := partOf(t, p.Tree, kid, false); len(leaf.keys) != 7 {
				t.Errorf("%s: a leaf of %d keys", name, len(leaf.keys))
			}
		}
		wantAlone(t, s, p)
	}
}

func TestAnEmptyTree(t *testing.T) {
	s := newStore(t, 64)
	p := newPair(s, node.Shape{KW: 2, VW: 3})
	p.wantGet(t, "ab")
	p.drop(t, "ab")
	p.wantFrom(t, "", true)
	wantAlone(t, s, p)
	if s.Changed() != 0 || p.Root != 0 {
		t.Errorf("%d changed, the root %d", s.Changed(), p.Root)
	}
}

func TestOneKey(t *testing.T) {
	s := newStore(t, 64)
	p := newPair(s, node.Shape{KW: 2, VW: 3})
	for range 3 {
		p.put(t, "bb", "one")
		wantAlone(t, s, p)
		p.put(t, "bb", "two")
		p.put(t, "bb", "two")
		wantAlone(t, s, p)
		for _, key := range []string{"aa", "ba", "bb", "bc", "cc"} {
			p.wantGet(t, key)
		}
		p.drop(t, "ba")
		p.drop(t, "bc")
		wantAlone(t, s, p)
		p.drop(t, "bb")
		wantAlone(t, s, p)
		if p.Root != 0 || s.Used() != 1 {
			t.Errorf("the root %d, %d used", p.Root, s.Used())
		}
		p.drop(t, "bb")
		p.wantGet(t, "bb")
	}
}

// Values of no bytes are there, too.
func TestASet(t *testing.T) {
	p := newPair(newStore(t, 200), node.Shape{KW: 64})
	for i := range 100 {
		p.put(t, keyOf(64, 2*i), "")
	}
	for i := range 200 {
		p.wantGet(t, keyOf(64, i))
	}
	p.wantMap(t)
}

// Whatever keys are put and deleted in whatever orders, all is sound at each step.
func TestOrders(t *testing.T) {
	orders := []func(i, n int) int{
		func(i, n int) int { return i },
		func(i, n int) int { return n - 1 - i },
		func(i, n int) int { return (i*7 + n/2) % n },
		func(i, n int) int { // from both ends
			if i%2 == 0 {
				return i / 2
			}
			return n - 1 - i/2
		},
		func(i, n int) int { // from the middle
			if i%2 == 0 {
				return n/2 + i/2
			}
			return n/2 - 1 - i/2
		},
	}
	for _, shape := range []node.Shape{{KW: 64, VW: 64}, {KW: 64, VW: 38}, {KW: 33, VW: 64}, {KW: 33, VW: 4}} {
		n := 16 * shape.Cap() // a number that 7 does not divide, as well as even
		for n%7 == 0 {
			n += 2
		}
		for i, puts := range orders {
			for j, drops := range orders {
				p := newPair(newStore(t, 256), shape)
				for k := range n {
					p.put(t, keyOf(shape.KW, puts(k, n)), valOf(shape, k))
					if k%7 == i {
						wantAlone(t, p.S, p)
					}
				}
				wantAlone(t, p.S, p)
				for k := range n {
					p.drop(t, keyOf(shape.KW, drops(k, n)))
					if k%7 == j || len(p.m) < 5 {
						wantAlone(t, p.S, p)
					}
				}
				if p.Root != 0 || p.S.Used() != 1 {
					t.Fatalf("%v: the root %d, %d used", shape, p.Root, p.S.Used())
				}
			}
		}
	}
}

// All keys of few bytes there are.
func TestAllKeys(t *testing.T) {
	s := newStore(t, 1024)
	p := newPair(s, node.Shape{KW: 1, VW: 64})
	for i := range 256 {
		p.put(t, keyOf(1, i*77%256), valOf(p.Shape, i))
	}
	wantAlone(t, s, p)
	for i := range 256 {
		p.wantGet(t, keyOf(1, i))
		p.wantFrom(t, keyOf(1, i), i%2 == 0)
	}
	for i := range 256 {
		p.drop(t, keyOf(1, i*55%256))
		wantAlone(t, s, p)
	}
}

// A run is a tree that grows and shrinks.
type run struct {
	*pair
	r    *rand.Rand
	pool []string
	grow int // of ten steps so many put
}

func (x *run) key() string { return x.pool[x.r.IntN(len(x.pool))] }

func (x *run) step(t *testing.T) {
	t.Helper()
	if x.r.IntN(300) == 0 {
		x.grow = 1 + x.r.IntN(9)
	}
	key := x.key()
	x.wantGet(t, key)
	if x.r.IntN(10) < x.grow {
		x.put(t, key, text(fmt.Sprint(x.r.IntN(1000), "-"), x.Shape.VW))
	} else {
		x.drop(t, key)
	}
	x.wantGet(t, key)
}

func newRun(s *pages.Store, shape node.Shape, seed uint64, keys int) *run {
	x := &run{newPair(s, shape), rand.New(rand.NewPCG(10, seed)), nil, 7}
	for range keys {
		x.pool = append(x.pool, someKey(x.r, shape.KW))
	}
	return x
}

func TestRandomRuns(t *testing.T) {
	for seed, shape := range someShapes() {
		s := newStore(t, 512)
		x := newRun(s, shape, uint64(seed), min(500, 60*shape.Cap()))
		for i := range 2000 {
			x.step(t)
			if i%40 == 0 {
				wantAlone(t, s, x.pair)
				x.wantFrom(t, x.key(), i%2 == 0)
			}
		}
		for _, key := range x.pool {
			x.drop(t, key)
		}
		wantAlone(t, s, x.pair)
		if x.Root != 0 || s.Used() != 1 {
			t.Fatalf("%v: the root %d, %d used", shape, x.Root, s.Used())
		}
	}
}

// Trees of one store leave each other, and pages of others, as they are.
func TestTreesBesideEachOther(t *testing.T) {
	s := newStore(t, 1024)
	own, e := s.Alloc()
	want(t, "Alloc", e, api.OK)
	mine := text("mine", 512)
	want(t, "Put", s.Put(own, []byte(mine)), api.OK)
	var runs []*run
	var l []*pair
	for i, shape := range []node.Shape{{KW: 32, VW: 4}, {KW: 32, VW: 4}, {KW: 2, VW: 5}, {KW: 64, VW: 64}, {KW: 17, VW: 33}} {
		x := newRun(s, shape, uint64(100+i), 150)
		runs, l = append(runs, x), append(l, x.pair)
	}
	wantAll := func() {
		t.Helper()
		used := []int{own}
		for _, p := range l {
			used = append(used, p.wantMap(t).pages...)
		}
		slices.Sort(used)
		if !slices.Equal(used, usedPages(t, s)) {
			t.Fatalf("the pages %v are used; want %v", usedPages(t, s), used)
		}
	}
	for i := range 4000 {
		runs[i*i%5].step(t)
		if i%100 == 0 {
			wantAll()
		}
	}
	wantAll()
	if b, _ := s.Page(own); string(b) != mine {
		t.Errorf("the page is % x", b)
	}
}

// Nothing of a tree stands elsewhere than on its pages, and in its root.
func TestATreeLiesOnItsPages(t *testing.T) {
	s := newStore(t, 512)
	x := newRun(s, node.Shape{KW: 32, VW: 6}, 7, 300)
	for range 20 {
		for range 60 {
			x.step(t)
			x.Tree = &tree.Tree{S: s, Shape: x.Shape, Root: x.Root}
		}
		want(t, "Commit", s.Commit(), api.OK)
		again, e := pages.Open(s.Disk())
		want(t, "Open", e, api.OK)
		s = again
		x.Tree = &tree.Tree{S: s, Shape: x.Shape, Root: x.Root}
		wantAlone(t, s, x.pair)
	}
}

// Who aborts a change, and sets the root as it was, has the tree as it was.
func TestAChangeThatIsAborted(t *testing.T) {
	s := newStore(t, 512)
	x := newRun(s, node.Shape{KW: 33, VW: 4}, 8, 300)
	for range 20 {
		for range 20 {
			x.step(t)
		}
		want(t, "Commit", s.Commit(), api.OK)
		was := *x.Tree
		other := &pair{&tree.Tree{S: s, Shape: x.Shape, Root: x.Root}, nil}
		for i := range 100 {
			other.Put(keyOf(33, i), "else")
			other.Delete(x.key())
		}
		s.Abort()
		*x.Tree = was
		wantAlone(t, s, x.pair)
	}
}

// What asks changes nothing.
func TestAskingChangesNothing(t *testing.T) {
	s := newStore(t, 512)
	x := newRun(s, node.Shape{KW: 32, VW: 5}, 9, 300)
	for range 500 {
		x.step(t)
	}
	want(t, "Commit", s.Commit(), api.OK)
	root, acts := x.Root, s.Disk().Acts()
	for _, key := range x.pool {
		x.wantGet(t, key)
		x.wantFrom(t, key, true)
		x.wantFrom(t, key, false)
		if _, is := x.m[key]; !is {
			x.drop(t, key)
		}
	}
	wantAlone(t, s, x.pair)
	if x.Root != root || s.Changed() != 0 || s.Disk().Acts() != acts {
		t.Errorf("the root %d; want %d; %d changed", x.Root, root, s.Changed())
	}
}

// A change has as few pages as may be: where nothing is split or joined, the leaf alone.
func TestChangesAreSmall(t *testing.T) {
	p := grown(t, node.Shape{KW: 64, VW: 64}, 60)
	for i := range 60 {
		want(t, "Commit", p.S.Commit(), api.OK)
		p.put(t, keyOf(64, 2*i+2), text("other", 64))
		if n := p.S.Changed(); n != 1 {
			t.Fatalf("%d changed", n)
		}
		want(t, "Commit", p.S.Commit(), api.OK)
		_, pages, _ := p.Check()
		p.put(t, keyOf(64, 2*i+1), text("new", 64))
		_, now, _ := p.Check()
		if n := p.S.Changed(); now == pages && n != 1 || now > pages && n > 12 {
			t.Fatalf("%d changed; %d pages, %d were", n, now, pages)
		}
	}
}

// Keys and values that are told stay as they are, whatever is done to the tree.
func TestAnswersStay(t *testing.T) {
	p := newPair(newStore(t, 64), node.Shape{KW: 2, VW: 2})
	p.put(t, "ab", "cd")
	val, _, _ := p.Get("ab")
	key, v, _, _ := p.From("", true)
	p.put(t, "ab", "ef")
	p.drop(t, "ab")
	p.put(t, "xy", "zz")
	if val != "cd" || key != "ab" || v != "cd" {
		t.Errorf("%q, %q, %q", val, key, v)
	}
}
