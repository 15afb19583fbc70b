package count_test

import (
	"fmt"
	"maps"
	"math"
	"testing"

	"armarium/api"
	"armarium/count"
	"armarium/forest"
)

// P16.2

func TestTheChaptersExample(t *testing.T) {
	f, w := added(t)
	for _, x := range []struct {
		by int64
		n  uint32
	}{{2, 2}, {-2, 0}} {
		do(t, f, func() {
			if n, e := count.Add(f, hash(0), x.by); n != x.n || e != api.OK {
				t.Errorf("Add of %d: %d, %v; want %d", x.by, n, e, x.n)
			}
		})
	}
	wantForest(t, f, w)
	if f.Store().Used() != 2 {
		t.Errorf("%d pages are used", f.Store().Used())
	}
}

// Any number is added to any: it is what a hash has then, or it is refused, and nothing is changed.
func TestAnySums(t *testing.T) {
	for _, n := range numbers() {
		f, w := added(t)
		for i, by := range anyBy() {
			do(t, f, func() { addBoth(t, f, w, hash(i), n) })
			if _, e := maps.Clone(w).add(hash(i), by); e != api.OK {
				wantRefused(t, f, api.ErrArg, addOf(t, f, hash(i), by))
			} else {
				do(t, f, func() { addBoth(t, f, w, hash(i), by) })
			}
			wantNow(t, f, w)
		}
		wantForest(t, f, w)
	}
}

// The edges, in numbers: 0 and 2^32 - 1 may be, one less and one more may not.
func TestEdges(t *testing.T) {
	for _, x := range []struct {
		had uint32
		by  int64
		n   uint32
		e   api.Errno
	}{
		{0, 0, 0, api.OK},
		{0, 1, 1, api.OK},
		{0, -1, 0, api.ErrArg},
		{0, 4294967295, 4294967295, api.OK},
		{0, 4294967296, 0, api.ErrArg},
		{1, 4294967294, 4294967295, api.OK},
		{1, 4294967295, 0, api.ErrArg},
		{4294967295, 0, 4294967295, api.OK},
		{4294967295, 1, 0, api.ErrArg},
		{4294967295, -4294967295, 0, api.OK},
		{4294967295, -4294967296, 0, api.ErrArg},
		{7, -6, 1, api.OK},
		{7, -7, 0, api.OK},
		{7, -8, 0, api.ErrArg},
		{7, 4294967296 - 7, 0, api.ErrArg},
		{7, math.MaxInt64, 0, api.ErrArg},
		{7, math.MaxInt64 - 6, 0, api.ErrArg},
		{7, math.MinInt64, 0, api.ErrArg},
		{7, -4294967296, 0, api.ErrArg},
	} {
		f := newForest(t, 96, 64)
		if x.had > 0 {
			putEntry(t, f, hash(0), x.had)
		}
		now := x.n
		if x.e != api.OK {
			now = x.had
		}
		do(t, f, func() {
			if n, e := count.Add(f, hash(0), x.by); n != x.n || e != x.e {
				t.Errorf("%d and %d: %d, %v; want %d, %v", x.had, x.by, n, e, x.n, x.e)
			}
			if n, e := count.Get(f, hash(0)); n != now || e != api.OK {
				t.Errorf("%d and %d: now %d, %v; want %d", x.had, x.by, n, e, now)
			}
		})
		if n, e := count.Get(f, hash(0)); n != now || e != api.OK {
			t.Errorf("%d and %d: then %d, %v; want %d", x.had, x.by, n, e, now)
		}
	}
}

// A hash that is not stored is not stored for 0 more; one that is, is as it was.
func TestAddOfNothing(t *testing.T) {
	f, w := added(t, 5)
	wantRefused(t, f, api.OK, addOf(t, f, hash(1), 0))
	do(t, f, func() { addBoth(t, f, w, hash(0), 0) })
	wantForest(t, f, w)
	f, w = added(t)
	wantRefused(t, f, api.OK, addOf(t, f, hash(1), 0))
	wantForest(t, f, w)
}

// What is refused leaves the change as it was, and the change may go on.
func TestAddThatIsRefused(t *testing.T) {
	f, w := added(t, 5, most)
	do(t, f, func() {
		addBoth(t, f, w, hash(2), 3)
		for _, x := range []struct {
			hash int
			by   int64
		}{{0, -6}, {1, 1}, {2, -4}, {3, -1}, {3, most + 1}} {
			want(t, "Add", addBoth(t, f, w, hash(x.hash), x.by), api.ErrArg)
			wantNow(t, f, w)
		}
		addBoth(t, f, w, hash(0), -5)
	})
	wantForest(t, f, w)
	wantForest(t, opened(t, diskOf(f)), w)
}

// Outside of a change nothing changes, whatever would come of it.
func TestOutsideOfAChange(t *testing.T) {
	f, w := added(t, 5, most)
	wantUntouched(t, "outside of a change", diskOf(f), func() {
		for i := range 3 {
			for _, by := range anyBy() {
				want(t, fmt.Sprint("Add of ", by), addOf(t, f, hash(i), by)(), api.ErrArg)
			}
		}
		wantForest(t, f, w)
	})
	f, w = added(t)
	want(t, "Add of 0", addOf(t, f, hash(0), 0)(), api.ErrArg)
	want(t, "Add of 1", addOf(t, f, hash(0), 1)(), api.ErrArg)
	wantForest(t, f, w)
}

// When no page is left, Add says what the forest says, and the change is gone; what needs no page is done.
func TestNoPageIsLeft(t *testing.T) {
	f, w := newForest(t, 96, 64), told{}
	hashes := 0
	for {
		e := f.Do(addOf(t, f, hash(hashes), 3))
		if e != api.OK {
			want(t, "Do", e, api.ErrFull)
			break
		}
		w.add(hash(hashes), 3)
		hashes++
	}
	if wantForest(t, f, w); hashes < 62*7-14 {
		t.Fatalf("%d hashes are all", hashes)
	}
	want(t, "Do", f.Do(func() api.Errno {
		count.Add(f, hash(0), 1)
		want(t, "Add", addOf(t, f, hash(hashes), 3)(), api.ErrFull)
		return api.OK
	}), api.ErrFull)
	wantForest(t, f, w)
	for i := range hashes {
		do(t, f, func() { addBoth(t, f, w, hash(i), most-3) })
	}
	wantForest(t, f, w)
	for i := range hashes {
		do(t, f, func() { addBoth(t, f, w, hash(i), -most) })
	}
	wantForest(t, f, w)
	if f.Store().Used() != 2 {
		t.Fatalf("%d pages are used", f.Store().Used())
	}
}

// The other trees stay as they were, also where their keys are the same.
func TestOtherTrees(t *testing.T) {
	f, w := added(t)
	h := hash(0)
	do(t, f, func() {
		want(t, "Put", f.Put(forest.Places, string(h[:]), "places"), api.OK)
		want(t, "Put", f.Put(forest.Held, string(h[:]), "helds"), api.OK)
	})
	if n, e := count.Get(f, h); n != 0 || e != api.OK {
		t.Fatalf("%d, %v", n, e)
	}
	for range 2 {
		do(t, f, func() { addBoth(t, f, w, h, 4) })
		wantNow(t, f, w)
		do(t, f, func() { addBoth(t, f, w, h, -4) })
		wantNow(t, f, w)
	}
	for tree, val := range map[int]string{forest.Places: "places", forest.Held: "helds"} {
		if m := entriesOf(t, f, tree); !maps.Equal(m, map[string]string{string(h[:]): val}) {
			t.Fatalf("the tree %d has %x", tree, m)
		}
	}
}
