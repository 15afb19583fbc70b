package tree_test

import (
	"fmt"
	"math/rand/v2"
	"slices"
	"testing"

	"armarium/api"
	"armarium/node"
	"armarium/tree"
)

// committed lets a tree's pages be committed, so that ask can go back to them.
func committed(t *testing.T, x *tree.Tree) {
	t.Helper()
	want(t, "Commit", x.S.Commit(), api.OK)
}

func TestRootsThatAreNoPage(t *testing.T) {
	s := newStore(t, 64)
	for _, root := range []int{lowest, -65536, -64, -1, 64, 65, 1023, 1024, 65537, 1<<32 + 1, greatest} {
		x := &tree.Tree{S: s, Shape: node.Shape{KW: 1, VW: 1}, Root: root}
		wantAll(t, x, "a", "b", api.ErrSpoilt)
	}
}

// Pages that are no node's of the shape, at the root, or as the only way down.
func TestPagesThatAreNoNodes(t *testing.T) {
	shape := node.Shape{KW: 2, VW: 2}
	leaf, _ := shape.Put(node.Node{Leaf: true, Keys: []string{"ab"}, Vals: []string{"cd"}})
	other, _ := node.Shape{KW: 3, VW: 2}.Put(node.Node{Leaf: true, Keys: []string{"abc"}, Vals: []string{"de"}})
	bad := [][]byte{make([]byte, 512), slices.Repeat([]byte{0xff}, 512), []byte(text("page", 512)), other}
	for at, x := range map[int]byte{0: 3, 1: 1, 2: 1, 3: 2, 511: 1} {
		b := slices.Clone(leaf)
		b[at] = x
		bad = append(bad, b)
	}
	for _, b := range bad {
		x := &tree.Tree{S: newStore(t, 64), Shape: shape, Root: 5}
		want(t, "Put", x.S.Put(5, b), api.OK)
		committed(t, x)
		wantAll(t, x, "ab", "cd", api.ErrSpoilt)
		lay(t, x, 6, node.Node{Keys: []string{"mm"}, Kids: []int{5, 5}})
		x.Root = 6
		committed(t, x)
		wantAll(t, x, "ab", "cd", api.ErrSpoilt)
		wantAll(t, x, "zz", "cd", api.ErrSpoilt)
	}
}

func TestChildrenThatAreNoPage(t *testing.T) {
	for _, kid := range []int{64, 65, 512, 1023} {
		x := &tree.Tree{S: newStore(t, 64), Shape: node.Shape{KW: 1}, Root: 5}
		lay(t, x, 5, node.Node{Keys: []string{"m"}, Kids: []int{kid, kid}})
		committed(t, x)
		wantAll(t, x, "a", "", api.ErrSpoilt)
		wantAll(t, x, "m", "", api.ErrSpoilt)
	}
}

// What is not met on the way plays no part.
func TestWhatIsNotMet(t *testing.T) {
	x := &tree.Tree{S: newStore(t, 64), Shape: node.Shape{KW: 64, VW: 64}, Root: 1}
	lay(t, x, 1, node.Node{Keys: keysOf(40), Kids: []int{2, 3}})
	lay(t, x, 2, leafOf(10, 20))
	committed(t, x)
	if val, is, e := x.Get(keyOf(64, 10)); val != text("v", 64) || !is || e != api.OK {
		t.Errorf("Get: %q, %v, %v", val, is, e)
	}
	if val, is, e := x.Get(keyOf(64, 40)); val != "" || is || e != api.ErrSpoilt {
		t.Errorf("Get: %q, %v, %v", val, is, e)
	}
	if key, _, is, e := x.From(keyOf(64, 10), false); key != keyOf(64, 20) || !is || e != api.OK {
		t.Errorf("From: %q, %v, %v", key, is, e)
	}
	if key, val, is, e := x.From(keyOf(64, 20), false); key != "" || val != "" || is || e != api.ErrSpoilt {
		t.Errorf("From: %q, %q, %v, %v", key, val, is, e)
	}
	want(t, "Put", x.Put(keyOf(64, 10), text("w", 64)), api.OK)
	want(t, "Put", x.Put(keyOf(64, 30), text("w", 64)), api.OK)
	told := 0
	want(t, "Each", x.Each(func(key, val string) bool { told++; return told < 3 }), api.OK)
	lay(t, x, 1, node.Node{Keys: keysOf(5), Kids: []int{3, 2}})
	if key, _, is, e := x.From(keyOf(64, 10), true); key != keyOf(64, 10) || !is || e != api.OK {
		t.Errorf("From: %q, %v, %v", key, is, e)
	}
	want(t, "Each", x.Each(func(key, val string) bool { return true }), api.ErrSpoilt)
	if k, n, e := x.Check(); k != 0 || n != 0 || e != api.ErrSpoilt {
		t.Errorf("Check: %d, %d, %v", k, n, e)
	}
}

// A walk that goes round ends.
func TestCircles(t *testing.T) {
	for _, length := range []int{1, 2, 5, 63} {
		x := &tree.Tree{S: newStore(t, 64), Shape: node.Shape{KW: 1, VW: 1}, Root: 1}
		for i := range length {
			next := 1 + (i+1)%length
			lay(t, x, 1+i, node.Node{Keys: []string{"m"}, Kids: []int{next, next}})
		}
		committed(t, x)
		wantAll(t, x, "a", "b", api.ErrSpoilt)
		wantAll(t, x, "m", "b", api.ErrSpoilt)
	}
}

// So does one that would meet the same pages again and again.
func TestOnePageBelowManyOthers(t *testing.T) {
	x := &tree.Tree{S: newStore(t, 512), Shape: node.Shape{KW: 1, VW: 1}, Root: 1}
	for i := 1; i < 400; i++ {
		lay(t, x, i, node.Node{Keys: []string{"m"}, Kids: []int{i + 1, i + 1}})
	}
	for _, leaf := range []node.Node{{Leaf: true}, {Leaf: true, Keys: []string{"a"}, Vals: []string{"b"}}} {
		lay(t, x, 400, leaf)
		want(t, "Each", x.Each(func(key, val string) bool { return true }), api.ErrSpoilt)
		_, _, _, e := x.From("b", false)
		want(t, "From", e, api.ErrSpoilt)
		_, _, e = x.Check()
		want(t, "Check", e, api.ErrSpoilt)
		val, is, e := x.Get("a")
		if is != (len(leaf.Keys) == 1) || e != api.OK {
			t.Errorf("Get: %q, %v, %v", val, is, e)
		}
	}
}

// A leaf beside an inner node is not put together with it.
func TestNeighboursOfOtherKinds(t *testing.T) {
	shape := node.Shape{KW: 1, VW: 64}
	leaf := func(keys ...string) node.Node {
		return node.Node{Leaf: true, Keys: keys, Vals: slices.Repeat([]string{text("v", 64)}, len(keys))}
	}
	for _, kids := range [][]int{{2, 3}, {3, 2}} {
		x := &tree.Tree{S: newStore(t, 64), Shape: shape, Root: 1}
		lay(t, x, 1, node.Node{Keys: []string{"m"}, Kids: kids})
		lay(t, x, 2, leaf("a", "n"))
		lay(t, x, 3, node.Node{Keys: []string{"g"}, Kids: []int{4, 5}})
		lay(t, x, 4, leaf("a", "n"))
		lay(t, x, 5, leaf("a", "n"))
		committed(t, x)
		key := "a"
		if kids[0] == 3 {
			key = "n"
		}
		was, e := x.Delete(key)
		if was || e != api.ErrSpoilt || x.Root != 1 {
			t.Errorf("%v: %v, %v, the root %d", kids, was, e, x.Root)
		}
	}
}

// Keys that would not rise in a node come of a spoilt tree alone.
func TestKeysThatDoNotRise(t *testing.T) {
	x := plan{1: {Keys: keysOf(40), Kids: []int{2, 3}}, 2: leafOf(10, 50, 60), 3: leafOf(30, 70)}.lay(t, node.Shape{KW: 64, VW: 64})
	committed(t, x)
	want(t, "Put", x.Put(keyOf(64, 20), text("w", 64)), api.ErrSpoilt) // 50 would stand ahead of 40
	x = &tree.Tree{S: newStore(t, 64), Shape: node.Shape{KW: 64, VW: 38}, Root: 1}
	lay(t, x, 1, node.Node{Keys: keysOf(40), Kids: []int{2, 3}})
	for page, keys := range map[int][]string{2: keysOf(50, 60), 3: keysOf(41, 45)} {
		lay(t, x, page, node.Node{Leaf: true, Keys: keys, Vals: slices.Repeat([]string{text("v", 38)}, 2)})
	}
	committed(t, x)
	if was, e := x.Delete(keyOf(64, 41)); was || e != api.ErrSpoilt || x.Root != 1 { // 60 would stand ahead of 45
		t.Errorf("Delete: %v, %v, the root %d", was, e, x.Root)
	}
}

// P10.3

// A plan is a tree that is laid, page by page: a node of each, of which the page 1 is the root.
type plan map[int]node.Node

func (p plan) lay(t *testing.T, shape node.Shape) *tree.Tree {
	t.Helper()
	x := &tree.Tree{S: newStore(t, 64), Shape: shape, Root: 1}
	for page, n := range p {
		lay(t, x, page, n)
	}
	return x
}

// sound is a tree of the shape 64, 64 (Cap 3, Fan 8): each leaf may have one entry, each inner node but the root four children. It has three levels, and the keys 10, 20 .. 80, each on a leaf of its own.
func sound() plan {
	p := plan{1: {Keys: keysOf(45), Kids: []int{2, 3}}}
	p[2] = node.Node{Keys: keysOf(15, 25, 35), Kids: []int{11, 12, 13, 14}}
	p[3] = node.Node{Keys: keysOf(55, 65, 75), Kids: []int{15, 16, 17, 18}}
	for i := range 8 {
		p[11+i] = leafOf(10 * (i + 1))
	}
	return p
}

func keysOf(numbers ...int) []string {
	var l []string
	for _, n := range numbers {
		l = append(l, keyOf(64, n))
	}
	return l
}

func leafOf(numbers ...int) node.Node {
	return node.Node{Leaf: true, Keys: keysOf(numbers...), Vals: slices.Repeat([]string{text("v", 64)}, len(numbers))}
}

func TestCheckOfASoundTree(t *testing.T) {
	also := map[string]func(p plan) (int, int){
		"as it is":                        func(p plan) (int, int) { return 8, 11 },
		"a key is the one ahead of it":    func(p plan) (int, int) { p[12] = leafOf(15, 20, 24); return 10, 11 },
		"one is the one above, too":       func(p plan) (int, int) { p[15] = leafOf(45, 54); return 9, 11 },
		"the least, and the greatest one": func(p plan) (int, int) { p[11] = leafOf(0); p[18] = greatestLeaf(); return 8, 11 },
		"a root that is a leaf":           func(p plan) (int, int) { p[1] = leafOf(7); return 1, 1 },
		"a root that is a full leaf":      func(p plan) (int, int) { p[1] = leafOf(7, 8, 9); return 3, 1 },
		"a root of two levels":            func(p plan) (int, int) { p[1] = p[2]; return 4, 5 },
		"two children of the root": func(p plan) (int, int) {
			p[1] = node.Node{Keys: keysOf(15), Kids: []int{11, 12}}
			return 2, 3
		},
	}
	for what, change := range also {
		p := sound()
		keys, pages := change(p)
		x := p.lay(t, node.Shape{KW: 64, VW: 64})
		if k, n, e := x.Check(); k != keys || n != pages || e != api.OK {
			t.Errorf("%s: %d, %d, %v; want %d, %d", what, k, n, e, keys, pages)
		}
	}
}

func greatestLeaf() node.Node {
	return node.Node{Leaf: true, Keys: []string{text("\xff", 64)}, Vals: []string{text("v", 64)}}
}

func TestCheckOfSpoiltTrees(t *testing.T) {
	faults := map[string]func(p plan){
		"a leaf that is empty":                     func(p plan) { p[13] = leafOf() },
		"the first leaf is empty":                  func(p plan) { p[11] = leafOf() },
		"the last leaf is empty":                   func(p plan) { p[18] = leafOf() },
		"a root that is an empty leaf":             func(p plan) { p[1] = leafOf() },
		"an inner node of three children":          func(p plan) { p[2] = node.Node{Keys: keysOf(15, 25), Kids: []int{11, 12, 13}} },
		"another inner node of three children":     func(p plan) { p[3] = node.Node{Keys: keysOf(55, 65), Kids: []int{15, 16, 17}} },
		"a key is the one behind it":               func(p plan) { p[12] = leafOf(20, 25) },
		"a key is above the one behind it":         func(p plan) { p[12] = leafOf(20, 26) },
		"a key is less than the one ahead of it":   func(p plan) { p[12] = leafOf(14, 20) },
		"one is less than the one above":           func(p plan) { p[15] = leafOf(44) },
		"one is the one behind it, above":          func(p plan) { p[14] = leafOf(45) },
		"a key of an inner node is too great":      func(p plan) { p[2] = node.Node{Keys: keysOf(15, 25, 45), Kids: []int{11, 12, 13, 14}} },
		"a key of an inner node is too little":     func(p plan) { p[3] = node.Node{Keys: keysOf(44, 65, 75), Kids: []int{15, 16, 17, 18}} },
		"a leaf as deep as inner nodes":            func(p plan) { p[3] = leafOf(50) },
		"the first one, too":                       func(p plan) { p[2] = leafOf(10) },
		"an inner node as deep as leaves":          func(p plan) { p[16] = node.Node{Keys: keysOf(57, 58, 59), Kids: []int{21, 22, 23, 24}} },
		"a child twice":                            func(p plan) { p[2] = node.Node{Keys: keysOf(15, 25, 35), Kids: []int{11, 12, 12, 14}} },
		"a child of two nodes":                     func(p plan) { p[3] = node.Node{Keys: keysOf(55, 65, 75), Kids: []int{14, 16, 17, 18}} },
		"a child that is no page":                  func(p plan) { p[3] = node.Node{Keys: keysOf(55, 65, 75), Kids: []int{15, 16, 17, 64}} },
		"a child that is no node":                  func(p plan) { delete(p, 14) },
		"the root is its own first child":          func(p plan) { p[1] = node.Node{Keys: keysOf(45), Kids: []int{1, 3}} },
		"the root is its own last child":           func(p plan) { p[1] = node.Node{Keys: keysOf(45), Kids: []int{2, 1}} },
		"the root is its own children's child":     func(p plan) { p[3] = node.Node{Keys: keysOf(55, 65, 75), Kids: []int{15, 16, 17, 1}} },
		"an inner node is its own child":           func(p plan) { p[3] = node.Node{Keys: keysOf(55, 65, 75), Kids: []int{15, 16, 17, 3}} },
		"an inner node is the child of its leaves": func(p plan) { p[3] = node.Node{Keys: keysOf(55, 65, 75), Kids: []int{2, 2, 2, 2}} },
	}
	for what, fault := range faults {
		p := sound()
		for i := range 4 { // of the inner node that is too deep
			p[21+i] = leafOf(56 + i)
		}
		fault(p)
		x := p.lay(t, node.Shape{KW: 64, VW: 64})
		if k, n, e := x.Check(); k != 0 || n != 0 || e != api.ErrSpoilt {
			t.Errorf("%s: %d, %d, %v", what, k, n, e)
		}
	}
}

// Half of Cap, and of Fan, are rounded down.
func TestCheckOfHalves(t *testing.T) {
	for _, shape := range someShapes() {
		if shape.KW == 1 { // there are too few keys
			continue
		}
		for less := range 2 {
			x := &tree.Tree{S: newStore(t, 1024), Shape: shape, Root: 1}
			wantE, count := []api.Errno{api.OK, api.ErrSpoilt}[less], shape.Cap()/2-less
			root := node.Node{}
			for i := range 2 {
				leaf := node.Node{Leaf: true}
				for k := range max(count, 0) + i*less { // only the first one has too few
					leaf.Keys = append(leaf.Keys, keyOf(shape.KW, 1000*i+k))
					leaf.Vals = append(leaf.Vals, valOf(shape, k))
				}
				lay(t, x, 2+i, leaf)
				root.Kids = append(root.Kids, 2+i)
			}
			root.Keys = []string{keyOf(shape.KW, 1000)}
			lay(t, x, 1, root)
			_, n, e := x.Check()
			if e != wantE || e == api.OK && n != 3 {
				t.Errorf("%v: leaves of %d: %d, %v; want %v", shape, count, n, e, wantE)
			}
			wantInnerHalves(t, shape, less)
		}
	}
}

// wantInnerHalves fails unless two inner nodes below a root, of half of Fan children less so many, are as they may be.
func wantInnerHalves(t *testing.T, shape node.Shape, less int) {
	t.Helper()
	x := &tree.Tree{S: newStore(t, 1024), Shape: shape, Root: 1}
	root, page, key := node.Node{Kids: []int{2, 3}}, 4, 0
	for i := range 2 {
		n := node.Node{}
		for kid := range shape.Fan()/2 - less*i {
			leaf := node.Node{Leaf: true}
			first := keyOf(shape.KW, key)
			for range shape.Cap() / 2 {
				leaf.Keys, leaf.Vals = append(leaf.Keys, keyOf(shape.KW, key)), append(leaf.Vals, valOf(shape, key))
				key++
			}
			if kid > 0 {
				n.Keys = append(n.Keys, first)
			} else if i > 0 {
				root.Keys = []string{first}
			}
			lay(t, x, page, leaf)
			n.Kids = append(n.Kids, page)
			page++
		}
		lay(t, x, 2+i, n)
	}
	lay(t, x, 1, root)
	k, n, e := x.Check()
	if less == 0 && (e != api.OK || k != key || n != page-1) || less == 1 && e != api.ErrSpoilt {
		t.Errorf("%v, %d less: %d, %d, %v; want %d, %d", shape, less, k, n, e, key, page-1)
	}
}

// A byte of a sound tree is another one: whatever is asked ends, and is told alone, and what Check lets through is a tree.
func TestBytesThatAreOthers(t *testing.T) {
	r := rand.New(rand.NewPCG(10, 3))
	through := 0
	for range 150 {
		p := grown(t, node.Shape{KW: 64, VW: 64}, 60)
		all := p.wantMap(t).pages
		for range 1 + r.IntN(2) {
			page := all[r.IntN(len(all))]
			b, _ := p.S.Page(page)
			b[r.IntN(512)] ^= 1 << r.IntN(8)
			p.S.Put(page, b)
		}
		committed(t, p.Tree)
		for _, a := range ask(p.Tree, keyOf(64, r.IntN(130)), text("w", 64)) {
			wantNothing(t, a)
		}
		if k, n, e := p.Check(); e == api.OK {
			through++
			if x := partOf(t, p.Tree, p.Root, true); len(x.keys) != k || len(x.pages) != n || !slices.IsSorted(x.keys) {
				t.Fatalf("Check: %d, %d", k, n)
			}
		}
	}
	if through == 0 || through == 150 {
		t.Errorf("Check lets %d through", through)
	}
}

// Of any nodes on pages, each call ends, and answers nothing beside an error.
func TestAnyNodes(t *testing.T) {
	r := rand.New(rand.NewPCG(10, 4))
	for i := range 85 {
		shape := someShapes()[i%len(someShapes())]
		x := &tree.Tree{S: newStore(t, 64), Shape: shape, Root: 1 + r.IntN(8)}
		for page := 1; page <= 8; page++ {
			if r.IntN(12) > 0 {
				lay(t, x, page, anyNode(r, shape))
			}
		}
		committed(t, x)
		for range 10 {
			for _, a := range ask(x, someKey(r, shape.KW), text(fmt.Sprint(i), shape.VW)) {
				wantNothing(t, a)
			}
		}
		for range 200 { // one behind the other, too
			x.Put(someKey(r, shape.KW), text("v", shape.VW))
			x.Delete(someKey(r, shape.KW))
		}
	}
}

// anyNode is one whose children are mostly among the first pages.
func anyNode(r *rand.Rand, shape node.Shape) node.Node {
	n := node.Node{Leaf: r.IntN(3) > 0}
	most := shape.Cap()
	if !n.Leaf {
		most = shape.Fan() - 1
	}
	for range r.IntN(most + 1) {
		n.Keys = append(n.Keys, someKey(r, shape.KW))
	}
	if !n.Leaf && len(n.Keys) == 0 {
		n.Keys = append(n.Keys, someKey(r, shape.KW))
	}
	slices.Sort(n.Keys)
	n.Keys = slices.Compact(n.Keys)
	if n.Leaf {
		n.Vals = slices.Repeat([]string{text("v", shape.VW)}, len(n.Keys))
		return n
	}
	for range len(n.Keys) + 1 {
		kid := 1 + r.IntN(8)
		if r.IntN(40) == 0 {
			kid = 1 + r.IntN(100)
		}
		n.Kids = append(n.Kids, kid)
	}
	return n
}
