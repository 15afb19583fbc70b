package count_test

import (
	"maps"
	"slices"
	"strings"
	"testing"

	"armarium/api"
	"armarium/count"
	"armarium/forest"
)

// P16.1

func TestNothingIsStored(t *testing.T) {
	f, w := added(t)
	for i := range 5 {
		if n, e := count.Get(f, hash(i)); n != 0 || e != api.OK {
			t.Errorf("%d, %v", n, e)
		}
	}
	e := count.Each(f, func(api.Hash, uint32) bool { t.Error("something is told"); return true })
	want(t, "Each", e, api.OK)
	wantForest(t, f, w)
}

// Numbers of all widths are told as they stand in the tree, the highest byte first.
func TestNumbers(t *testing.T) {
	f, w := added(t)
	for i, n := range numbers() {
		if n > 0 {
			putEntry(t, f, hash(i), uint32(n))
			w[hash(i)] = uint64(n)
		}
		wantForest(t, f, w)
	}
	if n, e := count.Get(f, hash(0)); n != 0 || e != api.OK {
		t.Errorf("of none: %d, %v", n, e)
	}
	wantForest(t, opened(t, diskOf(f)), w)
}

// A hash that is not stored has none, however much it is like one that is.
func TestHashesThatAreNear(t *testing.T) {
	f, w := added(t, 7)
	for bit := range 256 {
		near := hash(0)
		near[bit/8] ^= 1 << (bit % 8)
		if n, e := count.Get(f, near); n != 0 || e != api.OK {
			t.Fatalf("%d, %v", n, e)
		}
		do(t, f, func() { addBoth(t, f, w, near, int64(bit+1)) })
	}
	wantForest(t, f, w)
}

// The least hash, and the greatest one, are hashes as all others.
func TestHashesAtTheEnds(t *testing.T) {
	f, w := added(t, 5, 6)
	least, greatest := api.Hash{}, api.Hash([]byte(strings.Repeat("\xff", 32)))
	do(t, f, func() {
		addBoth(t, f, w, greatest, 3)
		addBoth(t, f, w, least, 4)
	})
	wantForest(t, f, w)
	if l := w.rising(); l[0] != least || l[3] != greatest {
		t.Fatal("these are not the ends")
	}
}

func TestEachStops(t *testing.T) {
	f, w := added(t)
	do(t, f, func() {
		for i := range 60 {
			addBoth(t, f, w, hash(i), int64(i+1))
		}
	})
	for stop := range 62 {
		var all []api.Hash
		e := count.Each(f, func(h api.Hash, n uint32) bool {
			all = append(all, h)
			return len(all) < stop
		})
		if n := min(max(stop, 1), 60); e != api.OK || !slices.Equal(all, w.rising()[:n]) {
			t.Fatalf("%v: %d are told; want %d", e, len(all), n)
		}
	}
}

func TestNil(t *testing.T) {
	for i, call := range []func() api.Errno{getOf(t, nil, hash(0)), addOf(t, nil, hash(0), 1), addOf(t, nil, hash(0), -1), addOf(t, nil, hash(0), 0), storedOf(t, nil), eachOf(nil)} {
		if e := call(); e != api.ErrNil {
			t.Errorf("the call %d: %v", i, e)
		}
	}
	want(t, "Each of nothing to tell", count.Each(nil, nil), api.ErrNil)
}

// That there is nothing to tell is said ahead of all else.
func TestNothingToTell(t *testing.T) {
	f, _ := added(t)
	want(t, "Each", count.Each(f, nil), api.ErrNil)
	f, w := added(t, 3)
	want(t, "Each", count.Each(f, nil), api.ErrNil)
	do(t, f, func() { want(t, "Each", count.Each(f, nil), api.ErrNil) })
	wantForest(t, f, w)
	putEntry(t, f, hash(0), 0)
	want(t, "Each", count.Each(f, nil), api.ErrNil)
	diskOf(f).Crash("")
	want(t, "Each", count.Each(f, nil), api.ErrNil)
}

// An entry of 0 is none's: who asks it, or all, hears so; of the other hashes all is as it was.
func TestAnEntryOfZero(t *testing.T) {
	f, w := added(t)
	do(t, f, func() {
		for i := range 40 {
			addBoth(t, f, w, hash(i), 5)
		}
	})
	for at, h := range w.rising() {
		putEntry(t, f, h, 0)
		wantRefused(t, f, api.ErrSpoilt, getOf(t, f, h), storedOf(t, f), eachOf(f))
		for _, by := range anyBy() {
			wantRefused(t, f, api.ErrSpoilt, addOf(t, f, h, by)) // ahead of ErrArg
		}
		wantTold(t, f, w.rising()[:at])
		for other, n := range w {
			if other != h {
				got, e := count.Get(f, other)
				if uint64(got) != n || e != api.OK {
					t.Fatalf("of another one: %d, %v; want %d", got, e, n)
				}
			}
		}
		putEntry(t, f, h, 5)
	}
	wantForest(t, f, w)
}

// wantTold fails unless Each tells just some hashes ahead of what is spoilt, and says nothing of that if it is stopped at the last one.
func wantTold(t *testing.T, f *forest.Forest, l []api.Hash) {
	t.Helper()
	var all []api.Hash
	e := count.Each(f, func(h api.Hash, n uint32) bool {
		all = append(all, h)
		return true
	})
	if want(t, "Each", e, api.ErrSpoilt); !slices.Equal(all, l) {
		t.Fatalf("%d are told; want %d", len(all), len(l))
	}
	if len(l) > 0 {
		left := len(l)
		e := count.Each(f, func(api.Hash, uint32) bool { left--; return left > 0 })
		want(t, "Each that stops", e, api.OK)
	}
}

// Beside an entry of 0 others may change.
func TestAddBesideAnEntryOfZero(t *testing.T) {
	f, w := added(t, 5, 6)
	putEntry(t, f, hash(2), 0)
	do(t, f, func() {
		want(t, "Add", addOf(t, f, hash(2), 1)(), api.ErrSpoilt)
		addBoth(t, f, w, hash(0), 2)
		addBoth(t, f, w, hash(1), -6)
		want(t, "Add", addOf(t, f, hash(2), -1)(), api.ErrSpoilt)
	})
	w[hash(2)] = 0
	if got := entriesOf(t, f, forest.Counts); !maps.Equal(got, w.entries()) {
		t.Fatalf("the tree has %x; want %x", got, w.entries())
	}
	for i, n := range []uint32{7, 0} {
		if got, e := count.Get(f, hash(i)); got != n || e != api.OK {
			t.Fatalf("%d, %v; want %d", got, e, n)
		}
	}
}

// What the forest says of a page that is none, all say.
func TestSpoiltPages(t *testing.T) {
	f, w := added(t, 5, 6, 7)
	b, e := f.Store().Page(1)
	want(t, "Page", e, api.OK)
	root := int(b[0])<<8 | int(b[1])
	leaf, e := f.Store().Page(root)
	want(t, "Page", e, api.OK)
	for range 2 {
		want(t, "Put", f.Store().Put(root, slices.Repeat([]byte{9}, 512)), api.OK)
		want(t, "Commit", f.Store().Commit(), api.OK)
		for i, call := range []func() api.Errno{getOf(t, f, hash(0)), addOf(t, f, hash(0), 1), addOf(t, f, hash(0), -6), addOf(t, f, hash(9), -1), storedOf(t, f), eachOf(f)} {
			want(t, "a call", call(), api.ErrSpoilt)
			if e := f.Do(call); e != api.ErrSpoilt {
				t.Fatalf("the call %d: %v", i, e)
			}
		}
		want(t, "Put", f.Store().Put(root, leaf), api.OK)
		want(t, "Commit", f.Store().Commit(), api.OK)
		wantForest(t, f, w)
		f = opened(t, diskOf(f))
	}
}

// What the disk says, all say, for ever.
func TestWithoutPower(t *testing.T) {
	f, w := added(t, 5, 6)
	diskOf(f).Crash("")
	for range 2 {
		for i, call := range []func() api.Errno{getOf(t, f, hash(0)), getOf(t, f, hash(9)), addOf(t, f, hash(0), 1), addOf(t, f, hash(0), -5), addOf(t, f, hash(0), -6), addOf(t, f, hash(9), 1), addOf(t, f, hash(9), -1), storedOf(t, f), eachOf(f)} {
			want(t, "a call", call(), api.ErrDead)
			if e := f.Do(call); e != api.ErrDead {
				t.Fatalf("the call %d: %v", i, e)
			}
		}
		diskOf(f).Start()
	}
	wantForest(t, opened(t, diskOf(f)), w)
	f, w = added(t)
	diskOf(f).Crash("")
	want(t, "Do of the first Add", f.Do(addOf(t, f, hash(0), 1)), api.ErrDead)
	diskOf(f).Start()
	wantForest(t, opened(t, diskOf(f)), w)
}

// Within a change all answer what is now, and behind one that is gone what was.
func TestWithinAChange(t *testing.T) {
	f, w := added(t, 5, 6)
	now := maps.Clone(w)
	e := f.Do(func() api.Errno {
		wantNow(t, f, now)
		addBoth(t, f, now, hash(0), -5)
		wantNow(t, f, now)
		addBoth(t, f, now, hash(2), 9)
		addBoth(t, f, now, hash(1), most-6)
		wantNow(t, f, now)
		return api.ErrHeld
	})
	want(t, "Do", e, api.ErrHeld)
	wantForest(t, f, w)
}
