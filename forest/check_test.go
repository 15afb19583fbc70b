package forest_test

import (
	"strings"
	"testing"

	"armarium/api"
	"armarium/forest"
	"armarium/node"
)

// P11.3

func TestCheckCountsKeys(t *testing.T) {
	f, w := newForest(t, 512, 512), newTold()
	for i := range 8 {
		doBoth(t, f, w, func(w told) {
			for k := range 1 + 30*i {
				putBoth(t, f, w, i, keyOf(i, k), valOf(i, k))
			}
		})
	}
	wantForest(t, f, w)
	if n, e := f.Check(); n != [8]int{1, 31, 61, 91, 121, 151, 181, 211} || e != api.OK {
		t.Errorf("%v, %v", n, e)
	}
}

// wantSpoilt fails unless Check says so of a forest, as it stands within a change of its store, and as it is committed.
func wantSpoilt(t *testing.T, what string, f *forest.Forest) {
	t.Helper()
	for range 2 {
		if n, e := f.Check(); n != [8]int{} || e != api.ErrSpoilt {
			t.Fatalf("%s: %v, %v", what, n, e)
		}
		want(t, "Commit", f.Store().Commit(), api.OK)
	}
	if again, e := forest.Open(f.Store().Disk()); e == api.OK {
		if n, e := again.Check(); n != [8]int{} || e != api.ErrSpoilt {
			t.Fatalf("%s, opened: %v, %v", what, n, e)
		}
	}
}

// Each page of each tree is what spoils it.
func TestSpoiltTrees(t *testing.T) {
	some, _ := grown(t, 512, 128, 30)
	roots := rootsOf(t, some.Store())
	for i := range 8 {
		for _, page := range pagesBelow(t, some.Store(), forest.Shape(i), roots[i]) {
			f, _ := grown(t, 512, 128, 30)
			want(t, "Put", f.Store().Put(page, []byte(strings.Repeat("spoilt", 86)[:512])), api.OK)
			wantSpoilt(t, "a page that is no node's", f)
			f, _ = grown(t, 512, 128, 30)
			want(t, "Free", f.Store().Free(page), api.OK)
			wantSpoilt(t, "a page that is not used", f)
		}
	}
}

func TestPagesThatAreNoTrees(t *testing.T) {
	for _, keys := range []int{0, 1, 30} {
		f, _ := grown(t, 512, 128, keys)
		page, e := f.Store().Alloc()
		want(t, "Alloc", e, api.OK)
		wantSpoilt(t, "a page that is no tree's", f)
		want(t, "Free", f.Store().Free(page), api.OK)
		if _, e := f.Check(); e != api.OK {
			t.Errorf("Check: %v", e)
		}
		for e := api.OK; e == api.OK; _, e = f.Store().Alloc() {
		}
		wantSpoilt(t, "all pages are used", f)
	}
}

// As many pages are used as the trees have, but another one instead of one of theirs.
func TestAPageInsteadOfATrees(t *testing.T) {
	f, _ := grown(t, 512, 128, 30)
	for i, root := range rootsOf(t, f.Store()) {
		f, _ := grown(t, 512, 128, 30)
		used := f.Store().Used()
		_, e := f.Store().Alloc()
		want(t, "Alloc", e, api.OK)
		all := pagesBelow(t, f.Store(), forest.Shape(i), root)
		want(t, "Free", f.Store().Free(all[len(all)-1]), api.OK)
		if f.Store().Used() != used {
			t.Fatal("other pages are used")
		}
		wantSpoilt(t, "a page instead of a tree's", f)
	}
}

// A page that two trees have is sound in both.
func TestAPageOfTwoTrees(t *testing.T) {
	for more := range 2 { // by the numbers alone, a page that is nobody's would make up for it
		d := stored(t, 64, rootPage(forest.Held, 2)[:2*forest.Held+2]+"\x00\x02"+zeros(512-2*forest.Held-4))
		f := opened(t, d)
		for range 1 + more {
			_, e := f.Store().Alloc()
			want(t, "Alloc", e, api.OK)
		}
		n := node.Node{Leaf: true, Keys: []string{zeros(32)}, Vals: []string{zeros(5)}}
		b, e := forest.Shape(forest.Held).Put(n)
		want(t, "Put of a node", e, api.OK)
		want(t, "Put", f.Store().Put(2, b), api.OK)
		for _, i := range []int{forest.Held, forest.Queue} {
			if _, _, is, e := f.From(i, "", true); !is || e != api.OK {
				t.Fatalf("From: %v, %v", is, e)
			}
		}
		wantSpoilt(t, "a page of two trees", f)
	}
}

// The page of the roots is used, and no tree's.
func TestThePageOfTheRoots(t *testing.T) {
	f, w := grown(t, 512, 128, 10)
	want(t, "Free", f.Store().Free(1), api.OK)
	wantSpoilt(t, "a page 1 that is not used", f)
	f, _ = grown(t, 512, 128, 0)
	want(t, "Free", f.Store().Free(1), api.OK)
	wantSpoilt(t, "a page 1 that is not used", f)
	f, w = grown(t, 512, 128, 10)
	doBoth(t, f, w, func(w told) {
		want(t, "Put", f.Store().Put(1, []byte(strings.Repeat("no root.", 64))), api.OK)
		changeSome(t, f, w)
	})
	wantForest(t, f, w) // who has a forest has its roots
	wantOpened(t, f.Store().Disk(), w)
}

// What is met on the way is told: a change that meets something spoilt is gone.
func TestAChangeOfASpoiltTree(t *testing.T) {
	f, w := grown(t, 512, 128, 10)
	root := rootsOf(t, f.Store())[forest.Snaps]
	want(t, "Put", f.Store().Put(root, []byte(zeros(512))), api.OK)
	want(t, "Commit", f.Store().Commit(), api.OK)
	d := f.Store().Disk()
	key, val := keyOf(forest.Snaps, 2), valOf(forest.Snaps, 2)
	wantAll(t, f, forest.Snaps, key, val, api.ErrArg, api.ErrSpoilt)
	calls := []func() api.Errno{
		func() api.Errno { _, _, e := f.Get(forest.Snaps, key); return e },
		func() api.Errno { return f.Put(forest.Snaps, key, val) },
		func() api.Errno { _, e := f.Delete(forest.Snaps, key); return e },
		func() api.Errno { _, _, _, e := f.From(forest.Snaps, key, true); return e },
		func() api.Errno { return f.Each(forest.Snaps, func(string, string) bool { return true }) },
		func() api.Errno { _, e := f.Check(); return e },
	}
	for _, call := range calls {
		wantUntouched(t, "a change that is gone", d, func() {
			e := f.Do(func() api.Errno {
				putBoth(t, f, w.copy(), forest.Boxes, keyOf(7, 1), valOf(7, 1))
				want(t, "a call of a spoilt tree", call(), api.ErrSpoilt)
				return api.OK
			})
			want(t, "Do", e, api.ErrSpoilt)
		})
		wantGet(t, f, w, forest.Boxes, keyOf(7, 1))
	}
	w[forest.Snaps] = nil // the others go on
	e := f.Do(func() api.Errno { return f.Put(forest.Boxes, keyOf(7, 1), valOf(7, 1)) })
	want(t, "Do", e, api.OK)
	w[forest.Boxes][keyOf(7, 1)] = valOf(7, 1)
	wantGet(t, f, w, forest.Boxes, keyOf(7, 1))
}
