package count_test

import (
	"maps"
	"math/rand/v2"
	"testing"

	"armarium/api"
	"armarium/count"
	"armarium/disk"
	"armarium/forest"
)

// P16.3

// behind answers the forest of a disk behind a change that was cut, or done, and which of both it is; it is one of both, wholly.
func behind(t *testing.T, d *disk.Disk, was, more told) (*forest.Forest, told) {
	t.Helper()
	f, w := opened(t, d), was
	if maps.Equal(entriesOf(t, f, forest.Counts), more.entries()) {
		w = more
	}
	wantForest(t, f, w)
	return f, w
}

// An adding is how many references a hash has more.
type adding struct {
	hash int
	by   int64
}

// A change is cut at each act, with all subsets of what waits: all that it adds is there, or nothing.
func TestChangesAreCut(t *testing.T) {
	f, was := added(t, 5, 6, most, 1)
	base := diskOf(f)
	for _, change := range [][]adding{
		{{0, 1}}, {{0, -5}}, {{4, 1}}, {{0, 1}, {1, -6}, {2, -1}},
		{{4, most}, {3, -1}, {4, -7}}, {{0, -5}, {1, -6}, {2, -most}, {3, -1}},
	} {
		more := maps.Clone(was)
		for _, x := range change {
			more.add(hash(x.hash), x.by)
		}
		there, gone := 0, 0
		for acts, done := 0, false; !done; acts++ {
			for keep := range 1 << min(acts, 8) {
				d := base.Copy()
				f, now := opened(t, d), maps.Clone(was)
				want(t, "Fuse", d.Fuse(acts, string([]byte{byte(keep)})), api.OK)
				e := f.Do(func() api.Errno {
					for _, x := range change {
						addBoth(t, f, now, hash(x.hash), x.by)
					}
					return api.OK
				})
				if done = e == api.OK; done {
					d.Crash(string([]byte{byte(keep)}))
				} else {
					want(t, "Do", e, api.ErrDead)
				}
				want(t, "Start", d.Start(), api.OK)
				if _, w := behind(t, d, was, more); maps.Equal(w, more) {
					there++
				} else if gone++; done {
					t.Fatalf("%v: it was done, and is not there", change)
				}
			}
		}
		if there == 0 || gone == 0 {
			t.Errorf("%v: %d times it was there, %d times not", change, there, gone)
		}
	}
}

// A run is a forest that is changed, and what is told of it.
type run struct {
	r *rand.Rand
	f *forest.Forest
	w told
}

// by is a number that may be added, or not, mostly small.
func (x *run) by(now told, h api.Hash) int64 {
	switch x.r.IntN(8) {
	case 0:
		return -int64(now[h]) // all that it has
	case 1:
		return anyBy()[x.r.IntN(len(anyBy()))]
	case 2:
		return most - int64(now[h]) // all that it may have
	default:
		return x.r.Int64N(9) - 4
	}
}

// come lets the power come again, and opens the forest, perhaps with more crashes meanwhile; it is w, or more.
func (x *run) come(t *testing.T, d *disk.Disk, more told) {
	t.Helper()
	want(t, "Start", d.Start(), api.OK)
	for x.r.IntN(3) == 0 {
		d.Fuse(x.r.IntN(40), someBits(x.r))
		if _, e := forest.Open(d); e == api.OK {
			d.Crash(someBits(x.r))
		}
		want(t, "Start", d.Start(), api.OK)
	}
	x.f, x.w = behind(t, d, x.w, more)
}

// change does a change of some steps, that may be cut, or answer an error.
func (x *run) change(t *testing.T, counted map[api.Errno]int) {
	t.Helper()
	d := diskOf(x.f)
	answered := []api.Errno{api.OK, api.OK, api.OK, api.ErrHeld}[x.r.IntN(4)]
	if x.r.IntN(4) == 0 {
		d.Fuse(x.r.IntN(30), someBits(x.r))
	}
	now := maps.Clone(x.w)
	e := x.f.Do(func() api.Errno {
		for range x.r.IntN(12) {
			h := hash(x.r.IntN(100))
			if addBoth(t, x.f, now, h, x.by(now, h)) == api.ErrArg {
				counted[api.ErrArg]++
			}
		}
		return answered
	})
	switch {
	case e == api.ErrDead && answered == api.OK:
		x.come(t, d, now)
	case e == api.OK && answered == api.OK:
		x.w = now
	default:
		want(t, "Do", e, answered)
	}
	counted[e]++
}

// Whatever is added, in changes that are done, cut, or gone: hashes have their sums.
func TestSumsOfWhatWasDone(t *testing.T) {
	counted := map[api.Errno]int{}
	for seed := range uint64(16) {
		x := &run{rand.New(rand.NewPCG(163, seed)), newForest(t, 96, 64), told{}}
		for range 120 {
			x.change(t, counted)
			if d := diskOf(x.f); x.r.IntN(8) == 0 {
				d.Crash(someBits(x.r))
				x.come(t, d, x.w)
			}
			wantForest(t, x.f, x.w)
		}
		d := diskOf(x.f)
		d.Crash(someBits(x.r)) // with a fuse that may be left
		x.come(t, d, x.w)
	}
	if counted[api.OK] < 500 || counted[api.ErrDead] < 80 || counted[api.ErrHeld] < 150 || counted[api.ErrArg] < 800 {
		t.Errorf("%v", counted)
	}
}

// In whatever order, and in however many changes, numbers are added, a hash has their sum.
func TestOrderOfWhatIsAdded(t *testing.T) {
	for seed := range uint64(20) {
		r := rand.New(rand.NewPCG(1630, seed))
		f, w := added(t)
		var all []adding
		for range 100 {
			all = append(all, adding{r.IntN(10), r.Int64N(1000) + 1})
		}
		for len(all) > 0 {
			n := 1 + r.IntN(len(all))
			do(t, f, func() {
				for _, x := range all[:n] {
					addBoth(t, f, w, hash(x.hash), x.by)
				}
			})
			all = all[n:]
		}
		wantForest(t, f, w)
		for h, n := range maps.Clone(w) {
			part := r.Int64N(int64(n))
			do(t, f, func() { addBoth(t, f, w, h, -part) })
			if got, e := count.Get(f, h); int64(got) != int64(n)-part || e != api.OK {
				t.Fatalf("%d, %v; want %d", got, e, int64(n)-part)
			}
			do(t, f, func() { addBoth(t, f, w, h, part-int64(n)) })
		}
		wantForest(t, f, told{})
	}
}
