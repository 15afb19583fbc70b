package forest_test

import (
	"fmt"
	"maps"
	"math/rand/v2"
	"slices"
	"strings"
	"testing"

	"armarium/api"
	"armarium/disk"
	"armarium/forest"
	"armarium/node"
	"armarium/pages"
	"armarium/tree"
	"armarium/wal"
)

const (
	greatest = int(^uint(0) >> 1)
	lowest   = -greatest - 1
)

// The chapter's words, written anew.

// widths are those of each tree's keys and values, as the chapter lists them.
func widths() [][2]int {
	return [][2]int{{32, 4}, {32, 6}, {4, 4}, {17, 33}, {1, 1}, {32, 5}, {33, 4}, {2, 5}}
}

// noTrees are numbers of trees that there are not.
func noTrees() []int {
	return []int{lowest, -1 << 32, -8, -1, 8, 9, 256, 1 << 16, 1 << 32, 1<<32 + 1, greatest}
}

// told is a forest as it must be: a map of each tree.
type told [8]map[string]string

func newTold() told {
	var w told
	for i := range w {
		w[i] = map[string]string{}
	}
	return w
}

// copy goes its own way.
func (w told) copy() told {
	var c told
	for i, m := range w {
		c[i] = maps.Clone(m)
	}
	return c
}

func (w told) counts() [8]int {
	var n [8]int
	for i, m := range w {
		n[i] = len(m)
	}
	return n
}

// rootsOf are the roots that a store's page 1 has, and fails unless it has bytes 0 behind.
func rootsOf(t *testing.T, s *pages.Store) [8]int {
	t.Helper()
	b := pageOf(t, s, 1)
	var roots [8]int
	for i := range roots {
		roots[i] = int(b[2*i])<<8 | int(b[2*i+1])
	}
	if b[16:] != zeros(496) {
		t.Fatalf("the page 1 is % x", b)
	}
	return roots
}

// pagesBelow are a page of a tree, and all below it.
func pagesBelow(t *testing.T, s *pages.Store, shape node.Shape, page int) []int {
	t.Helper()
	n, e := shape.Take([]byte(pageOf(t, s, page)))
	want(t, fmt.Sprint("Take of the page ", page), e, api.OK)
	l := []int{page}
	for _, kid := range n.Kids {
		l = append(l, pagesBelow(t, s, shape, kid)...)
	}
	return l
}

// wantStore fails unless a store's page 1, and the trees whose roots it has, are what is told, and just these pages are used.
func wantStore(t *testing.T, s *pages.Store, w told) {
	t.Helper()
	own := []int{0, 1}
	for i, root := range rootsOf(t, s) {
		x := tree.Tree{S: s, Shape: node.Shape{KW: widths()[i][0], VW: widths()[i][1]}, Root: root}
		got := map[string]string{}
		e := x.Each(func(key, val string) bool { got[key] = val; return true })
		if want(t, "Each of a tree", e, api.OK); !maps.Equal(got, w[i]) {
			t.Fatalf("the tree %d has %d keys; want %d", i, len(got), len(w[i]))
		}
		if root != 0 {
			own = append(own, pagesBelow(t, s, x.Shape, root)...)
		}
	}
	slices.Sort(own)
	if used := usedOf(t, s); !slices.Equal(used, own) {
		t.Fatalf("the pages %v are used; want %v", used, own)
	}
}

// usedOf are the pages that are used.
func usedOf(t *testing.T, s *pages.Store) []int {
	t.Helper()
	b := pageOf(t, s, 0)
	var l []int
	for i := range s.Pages() {
		if b[i/8]>>(i%8)&1 == 1 {
			l = append(l, i)
		}
	}
	return l
}

// The tests' helpers.

func want(t *testing.T, what string, got, want api.Errno) {
	t.Helper()
	if got != want {
		t.Fatalf("%s: %v; want %v", what, got, want)
	}
}

func zeros(n int) string { return strings.Repeat("\x00", n) }

func pageOf(t *testing.T, s *pages.Store, i int) string {
	t.Helper()
	b, e := s.Page(i)
	want(t, fmt.Sprint("Page ", i), e, api.OK)
	return string(b)
}

func newDisk(t *testing.T, sectors int) *disk.Disk {
	t.Helper()
	d, e := disk.New(sectors)
	want(t, "New", e, api.OK)
	return d
}

func opened(t *testing.T, d *disk.Disk) *forest.Forest {
	t.Helper()
	f, e := forest.Open(d)
	want(t, "Open", e, api.OK)
	return f
}

// newForest answers the forest of a new disk of just so many sectors as it needs.
func newForest(t *testing.T, log, n int) *forest.Forest {
	t.Helper()
	d := newDisk(t, 2+log+n)
	want(t, "Format", forest.Format(d, log, n, "note"), api.OK)
	f := opened(t, d)
	wantForest(t, f, newTold())
	return f
}

// wantForest fails unless a forest, outside a change, answers in all what is told.
func wantForest(t *testing.T, f *forest.Forest, w told) {
	t.Helper()
	wantNow(t, f, w)
	wantStore(t, f.Store(), w)
	if n := f.Store().Changed(); n != 0 {
		t.Fatalf("%d pages are changed", n)
	}
}

// wantNow fails unless a forest, also within a change, answers in all what is told.
func wantNow(t *testing.T, f *forest.Forest, w told) {
	t.Helper()
	if n, e := f.Check(); n != w.counts() || e != api.OK {
		t.Fatalf("Check: %v, %v; want %v", n, e, w.counts())
	}
	for i, m := range w {
		var keys []string
		e := f.Each(i, func(key, val string) bool {
			if was, is := m[key]; !is || was != val {
				t.Fatalf("Each of %d tells %q, %q; want %q", i, key, val, was)
			}
			keys = append(keys, key)
			return true
		})
		if e != api.OK || !slices.Equal(keys, slices.Sorted(maps.Keys(m))) {
			t.Fatalf("Each of %d: %v, %d keys; want %d", i, e, len(keys), len(m))
		}
	}
}

// wantOpened fails unless a forest that is opened on a copy of the disk, with power, is what is told.
func wantOpened(t *testing.T, d *disk.Disk, w told) {
	t.Helper()
	c := d.Copy()
	c.Crash("")
	c.Start()
	wantForest(t, opened(t, c), w)
}

// textsOf are the texts of a disk's log.
func textsOf(t *testing.T, d *disk.Disk) []string {
	t.Helper()
	c := d.Copy()
	c.Start()
	_, texts, e := wal.Open(c)
	want(t, "Open of the log", e, api.OK)
	return texts
}

// sectorsOf are all sectors of a disk.
func sectorsOf(d *disk.Disk) []string {
	var l []string
	for at := range d.Len() {
		l = append(l, string(d.Raw(at)))
	}
	return l
}

// wantUntouched fails unless a call left the disk as it was, without any act.
func wantUntouched(t *testing.T, what string, d *disk.Disk, call func()) {
	t.Helper()
	was, acts, waiting := sectorsOf(d), d.Acts(), d.Waiting()
	call()
	if !slices.Equal(sectorsOf(d), was) || d.Acts() != acts || d.Waiting() != waiting {
		t.Fatalf("%s: the disk was touched: %d acts, %d wait", what, d.Acts()-acts, d.Waiting()-waiting)
	}
}

// text is one of so many bytes, the greater, the greater its number is (of those that go in).
func text(width, number int) string {
	b := make([]byte, width)
	for i := width - 1; i >= 0; i-- {
		b[i] = byte(number)
		number >>= 8
	}
	return string(b)
}

func keyOf(i, number int) string { return text(widths()[i][0], number) }

func valOf(i, number int) string { return text(widths()[i][1], number*7919+1) }

// putBoth puts a key of a forest, and of what is told.
func putBoth(t *testing.T, f *forest.Forest, w told, i int, key, val string) {
	t.Helper()
	want(t, fmt.Sprint("Put of ", i), f.Put(i, key, val), api.OK)
	w[i][key] = val
}

// dropBoth deletes a key of a forest, and of what is told.
func dropBoth(t *testing.T, f *forest.Forest, w told, i int, key string) {
	t.Helper()
	_, is := w[i][key]
	was, e := f.Delete(i, key)
	if was != is || e != api.OK {
		t.Fatalf("Delete of %d, %q: %v, %v; want %v", i, key, was, e, is)
	}
	delete(w[i], key)
}

// doBoth does a change of a forest, and of what is told.
func doBoth(t *testing.T, f *forest.Forest, w told, change func(w told)) {
	t.Helper()
	e := f.Do(func() api.Errno {
		change(w)
		return api.OK
	})
	want(t, "Do", e, api.OK)
}

// grown answers a forest each of whose trees has so many keys (Intents at most 256), of even numbers.
func grown(t *testing.T, log, n, keys int) (*forest.Forest, told) {
	t.Helper()
	f, w := newForest(t, log, n), newTold()
	for i := range 8 {
		doBoth(t, f, w, func(w told) {
			for k := range keys {
				putBoth(t, f, w, i, keyOf(i, 2*k), valOf(i, k))
			}
		})
	}
	wantForest(t, f, w)
	return f, w
}

// A run is a forest that is changed, and what is told of it.
type run struct {
	r *rand.Rand
	f *forest.Forest
	w told
}

func (x *run) pick() (int, string) {
	i := x.r.IntN(8)
	return i, keyOf(i, x.r.IntN(120))
}

// step changes a key of a tree, or asks for it.
func (x *run) step(t *testing.T, w told) {
	t.Helper()
	i, key := x.pick()
	wantGet(t, x.f, w, i, key)
	switch x.r.IntN(6) {
	case 0, 1, 2:
		putBoth(t, x.f, w, i, key, valOf(i, x.r.IntN(1000)))
	case 3, 4:
		dropBoth(t, x.f, w, i, key)
	default:
		wantFrom(t, x.f, w, i, key, x.r.IntN(2) == 0)
	}
	wantGet(t, x.f, w, i, key)
}

// wantGet fails unless Get answers what is told.
func wantGet(t *testing.T, f *forest.Forest, w told, i int, key string) {
	t.Helper()
	val, is := w[i][key]
	if v, ok, e := f.Get(i, key); v != val || ok != is || e != api.OK {
		t.Fatalf("Get of %d, %q: %q, %v, %v; want %q, %v", i, key, v, ok, e, val, is)
	}
}

// wantFrom fails unless From answers what is told.
func wantFrom(t *testing.T, f *forest.Forest, w told, i int, key string, also bool) {
	t.Helper()
	wantK, is := "", false
	for k := range w[i] {
		if (k > key || also && k == key) && (!is || k < wantK) {
			wantK, is = k, true
		}
	}
	if k, v, ok, e := f.From(i, key, also); k != wantK || v != w[i][wantK] || ok != is || e != api.OK {
		t.Fatalf("From of %d, %q, %v: %q, %q, %v, %v; want %q, %v", i, key, also, k, v, ok, e, wantK, is)
	}
}
