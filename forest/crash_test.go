package forest_test

import (
	"math/rand/v2"
	"testing"

	"armarium/api"
	"armarium/disk"
	"armarium/forest"
)

// P11.4

// has tells whether a forest has just what is told.
func has(t *testing.T, f *forest.Forest, w told) bool {
	t.Helper()
	n, e := f.Check()
	want(t, "Check", e, api.OK)
	if n != w.counts() {
		return false
	}
	for i, m := range w {
		for key, val := range m {
			v, is, e := f.Get(i, key)
			want(t, "Get", e, api.OK)
			if !is || v != val {
				return false
			}
		}
	}
	return true
}

// small answers a forest of a few keys, and a change of it that takes as few sheets as there may be; behind it w is as more.
func small(t *testing.T) (*forest.Forest, told, told) {
	t.Helper()
	f, w := newForest(t, 96, 64), newTold()
	doBoth(t, f, w, func(w told) { putBoth(t, f, w, forest.Counts, keyOf(0, 2), valOf(0, 2)) })
	more := w.copy()
	more[forest.Counts][keyOf(0, 2)] = valOf(0, 7)
	more[forest.Boxes][keyOf(7, 2)] = valOf(7, 7)
	return f, w, more
}

func change(f *forest.Forest) api.Errno {
	return f.Do(func() api.Errno {
		f.Put(forest.Counts, keyOf(0, 2), valOf(0, 7))
		f.Put(forest.Boxes, keyOf(7, 2), valOf(7, 7))
		return api.OK
	})
}

// A change is cut at each act, with each subset of what waits: it is there, if all of it is, with the roots.
func TestAChangeIsCut(t *testing.T) {
	const sheets = 5 // four pages: which are used, the roots, two leaves
	for acts := range sheets + 1 {
		for keep := range 1 << acts {
			f, w, more := small(t)
			d := f.Store().Disk()
			want(t, "Fuse", d.Fuse(acts, string([]byte{byte(keep)})), api.OK)
			want(t, "Do", change(f), api.ErrDead)
			want(t, "Do again", change(f), api.ErrDead)
			d.Start()
			if keep == 1<<sheets-1 {
				w = more
			}
			wantForest(t, opened(t, d), w)
		}
	}
	f, _, more := small(t)
	d := f.Store().Disk()
	want(t, "Fuse", d.Fuse(sheets+1, ""), api.OK)
	want(t, "Do", change(f), api.OK)
	wantForest(t, f, more)
	d.Start()
	wantOpened(t, d, more)
}

// A change that is gone is gone also for the power's end behind it.
func TestAChangeThatIsGoneIsCut(t *testing.T) {
	f, w, _ := small(t)
	want(t, "Do", f.Do(func() api.Errno {
		changeSome(t, f, w.copy())
		return api.ErrFull
	}), api.ErrFull)
	d := f.Store().Disk()
	want(t, "Crash", d.Crash("\xff\xff"), api.OK)
	d.Start()
	wantForest(t, opened(t, d), w)
}

// someBits keep nothing, all, or some of what waits.
func someBits(r *rand.Rand) string {
	b := make([]byte, 16)
	for i, which := 0, r.IntN(4); i < len(b); i++ {
		switch which {
		case 0:
		case 1:
			b[i] = 0xff
		default:
			b[i] = byte(r.Uint32())
		}
	}
	return string(b)
}

// come lets the power come again, and opens the forest, perhaps with more crashes meanwhile; it is w, or more.
func (x *run) come(t *testing.T, d *disk.Disk, more told) {
	t.Helper()
	want(t, "Start", d.Start(), api.OK)
	for x.r.IntN(3) == 0 {
		d.Fuse(x.r.IntN(40), someBits(x.r))
		if _, e := forest.Open(d); e == api.OK {
			d.Crash(someBits(x.r))
		}
		want(t, "Start", d.Start(), api.OK)
	}
	x.f = opened(t, d)
	if has(t, x.f, more) {
		x.w = more
	}
	wantForest(t, x.f, x.w)
}

// change does a change of some steps, that may be cut, or answer an error.
func (x *run) change(t *testing.T) {
	t.Helper()
	d := x.f.Store().Disk()
	answer := []api.Errno{api.OK, api.OK, api.OK, api.ErrHeld}[x.r.IntN(4)]
	if x.r.IntN(4) == 0 {
		d.Fuse(x.r.IntN(60), someBits(x.r))
	}
	now := x.w.copy()
	e := x.f.Do(func() api.Errno {
		for range x.r.IntN(30) {
			x.step(t, now)
		}
		return answer
	})
	switch {
	case e == api.OK && answer == api.OK:
		x.w = now
	case e == api.ErrDead && answer == api.OK:
		x.come(t, d, now)
	default:
		want(t, "Do", e, answer)
	}
}

func TestPowerGoesAnywhere(t *testing.T) {
	for seed := range uint64(20) {
		x := &run{rand.New(rand.NewPCG(114, seed)), newForest(t, 96, 200), newTold()}
		for range 60 {
			x.change(t)
			if d := x.f.Store().Disk(); x.r.IntN(8) == 0 {
				d.Crash(someBits(x.r))
				x.come(t, d, x.w)
			}
		}
		wantForest(t, x.f, x.w)
		wantOpened(t, x.f.Store().Disk(), x.w)
	}
}
