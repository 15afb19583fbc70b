package forest_test

import (
	"maps"
	"slices"
	"testing"

	"armarium/api"
	"armarium/forest"
)

// P11.3

// wantAll fails unless all calls of a tree answer these errors (Put and Delete, and those that ask), and nothing else.
func wantAll(t *testing.T, f *forest.Forest, i int, key, val string, change, ask api.Errno) {
	t.Helper()
	want(t, "Put", f.Put(i, key, val), change)
	was, e := f.Delete(i, key)
	if want(t, "Delete", e, change); was {
		t.Fatal("Delete: true beside an error")
	}
	v, is, e := f.Get(i, key)
	if want(t, "Get", e, ask); v != "" || is {
		t.Fatalf("Get: %q, %v beside an error", v, is)
	}
	for _, also := range []bool{false, true} {
		k, v, is, e := f.From(i, key, also)
		if want(t, "From", e, ask); k != "" || v != "" || is {
			t.Fatalf("From: %q, %q, %v beside an error", k, v, is)
		}
	}
	e = f.Each(i, func(key, val string) bool { t.Fatal("something is told"); return true })
	want(t, "Each", e, ask)
	want(t, "Each of nothing", f.Each(i, nil), api.ErrNil)
}

func TestNil(t *testing.T) {
	var none *forest.Forest
	for _, i := range append(noTrees(), 0, 1, 2, 3, 4, 5, 6, 7) {
		wantAll(t, none, i, "", "", api.ErrNil, api.ErrNil)
		wantAll(t, none, i, text(32, 1), text(4, 1), api.ErrNil, api.ErrNil)
	}
	if n, e := none.Check(); n != [8]int{} || e != api.ErrNil {
		t.Errorf("Check: %v, %v", n, e)
	}
}

func TestTreesThatThereAreNot(t *testing.T) {
	f, w := grown(t, 512, 128, 10)
	all := func() {
		t.Helper()
		for _, i := range noTrees() {
			for at := range 8 {
				wantAll(t, f, i, keyOf(at, 2), valOf(at, 2), api.ErrArg, api.ErrArg)
			}
		}
	}
	all()
	doBoth(t, f, w, func(told) { all() })
	wantForest(t, f, w)
	f.Store().Disk().Crash("")
	all()
}

// Put and Delete are refused where no change is done: ahead of all, behind one that was done, and one that was not.
func TestNotWithinAChange(t *testing.T) {
	f, w := grown(t, 512, 128, 10)
	refused := func() {
		t.Helper()
		for i := range 8 {
			for _, key := range []string{keyOf(i, 2), keyOf(i, 3), "", "wrong width"} {
				want(t, "Put", f.Put(i, key, valOf(i, 9)), api.ErrArg)
				was, e := f.Delete(i, key)
				if want(t, "Delete", e, api.ErrArg); was {
					t.Fatal("Delete: true beside an error")
				}
			}
		}
	}
	wantUntouched(t, "a call that is refused", f.Store().Disk(), refused)
	wantForest(t, f, w)
	doBoth(t, f, w, func(w told) { changeSome(t, f, w) })
	refused()
	want(t, "Do", f.Do(func() api.Errno { return api.ErrName }), api.ErrName)
	refused()
	wantForest(t, f, w)
	wantForest(t, opened(t, f.Store().Disk()), w)
	f.Store().Disk().Crash("")
	refused()
}

// As the trees': a key is there, or not; a least one that is greater; all, as long as it is answered true.
func TestAsTheTrees(t *testing.T) {
	f, w := grown(t, 512, 256, 40)
	for i := range 8 {
		for k := range 82 {
			wantGet(t, f, w, i, keyOf(i, k))
			wantFrom(t, f, w, i, keyOf(i, k), k%3 == 0)
		}
		for _, key := range []string{"", "\x00", "\xff", text(100, 0), text(widths()[i][0]+1, 5)} {
			wantFrom(t, f, w, i, key, true)
			wantFrom(t, f, w, i, key, false)
		}
		keys := slices.Sorted(maps.Keys(w[i]))
		for stop := range 42 {
			var told []string
			e := f.Each(i, func(key, val string) bool {
				told = append(told, key)
				return len(told) < stop
			})
			if n := min(max(stop, 1), 40); e != api.OK || !slices.Equal(told, keys[:n]) {
				t.Fatalf("%v: %d are told; want %d", e, len(told), n)
			}
		}
	}
	if f.Store().Changed() != 0 {
		t.Error("something is changed")
	}
}

func TestEmptyTrees(t *testing.T) {
	f := newForest(t, 96, 64)
	for i := range 8 {
		wantGet(t, f, newTold(), i, keyOf(i, 1))
		wantFrom(t, f, newTold(), i, "", true)
	}
}

// Keys and values of other widths are refused by each tree, by its own shape.
func TestTextsOfOtherWidths(t *testing.T) {
	f, w := grown(t, 512, 128, 10)
	for i, own := range widths() {
		for width := range 66 {
			key, val := text(width, 2), text(width, 2)
			if width != own[0] {
				_, is, e := f.Get(i, key)
				if want(t, "Get", e, api.ErrArg); is {
					t.Fatal("Get: true beside an error")
				}
			}
			e := f.Do(func() api.Errno {
				e := f.Put(i, key, valOf(i, 1))
				was, e2 := f.Delete(i, key)
				if (e == api.OK) != (width == own[0]) || was != (e2 == api.OK) || e != e2 {
					t.Fatalf("the tree %d, %d bytes: %v, %v, %v", i, width, e, was, e2)
				}
				if e := f.Put(i, keyOf(i, 3), val); (e == api.OK) != (width == own[1]) {
					t.Fatalf("the tree %d, a value of %d bytes: %v", i, width, e)
				}
				return api.ErrHeld
			})
			want(t, "Do", e, api.ErrHeld)
		}
	}
	wantForest(t, f, w)
}

// A tree is another one for what is done to it alone.
func TestTreesBesideEachOther(t *testing.T) {
	f, w := newForest(t, 512, 256), newTold()
	for i := range 8 {
		doBoth(t, f, w, func(w told) {
			for k := range 50 {
				putBoth(t, f, w, i, keyOf(i, k), valOf(i, k))
			}
		})
		wantForest(t, f, w)
	}
	for i := range 8 {
		doBoth(t, f, w, func(w told) {
			for k := range 50 {
				dropBoth(t, f, w, i, keyOf(i, k))
			}
		})
		wantForest(t, f, w)
	}
}

// What the store says of a dead disk, the forest says, for ever.
func TestDead(t *testing.T) {
	f, w := grown(t, 512, 128, 10)
	d := f.Store().Disk()
	dead := func() {
		t.Helper()
		for i := range 8 {
			wantAll(t, f, i, keyOf(i, 2), valOf(i, 2), api.ErrArg, api.ErrDead)
		}
		if n, e := f.Check(); n != [8]int{} || e != api.ErrDead {
			t.Fatalf("Check: %v, %v", n, e)
		}
		for range 2 {
			want(t, "Do of nothing", f.Do(func() api.Errno { return api.OK }), api.ErrDead)
			e := f.Do(func() api.Errno {
				for i := range 8 {
					wantAll(t, f, i, keyOf(i, 2), valOf(i, 2), api.ErrDead, api.ErrDead)
				}
				return api.OK
			})
			want(t, "Do", e, api.ErrDead)
		}
	}
	d.Crash("")
	dead()
	d.Start()
	dead()
	wantForest(t, opened(t, d), w)
	empty := newForest(t, 96, 64)
	empty.Store().Disk().Crash("")
	if n, e := empty.Check(); n != [8]int{} || e != api.ErrDead {
		t.Errorf("Check: %v, %v", n, e)
	}
	want(t, "Do of nothing", empty.Do(func() api.Errno { return api.OK }), api.ErrDead)
}
