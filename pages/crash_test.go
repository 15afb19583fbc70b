package pages_test

import (
	"fmt"
	"math/rand/v2"
	"testing"

	"armarium/api"
	"armarium/disk"
	"armarium/pages"
)

// P8.5

// cut lets the power go behind so many acts of a call, with these bits, and come again, if it went.
func cut(t *testing.T, d *disk.Disk, acts int, keep []byte, call func() api.Errno) {
	t.Helper()
	want(t, "Fuse", d.Fuse(acts, string(keep)), api.OK)
	want(t, "a call that is cut", call(), api.ErrDead)
	want(t, "Start", d.Start(), api.OK)
}

// is tells whether a store has just what was committed.
func is(t *testing.T, s *pages.Store, w *told) bool {
	t.Helper()
	if s.Pages() != len(w.committed) || s.Changed() != 0 {
		t.Fatalf("%d pages, %d changed", s.Pages(), s.Changed())
	}
	for i, p := range w.committed {
		if pageOf(t, s, i) != p {
			return false
		}
	}
	return true
}

// A change of three sheets is cut at each act, with each subset of what waits: it is there, if all of it is.
func TestACommitIsCut(t *testing.T) {
	for acts := range 4 {
		for keep := range 1 << acts {
			d, s, w := made(t, 96, 64)
			allocBoth(t, s, w)
			putBoth(t, s, w, 1, full("a"))
			commitBoth(t, s, w)
			freeBoth(t, s, w, 1)
			putBoth(t, s, w, 1, full("b"))
			more := w.copy()
			more.commit()
			cut(t, d, acts, []byte{byte(keep)}, s.Commit)
			w.abort()
			if keep == 7 {
				w = more
			}
			wantStore(t, opened(t, d), w)
		}
	}
}

// A commit that checks out first is cut at each act, with some subsets: of what was committed all is there, of it nothing, or all.
func TestACommitThatChecksOutIsCut(t *testing.T) {
	r := rand.New(rand.NewPCG(8, 1))
	for acts := 0; ; acts++ {
		for try := range 4 {
			d, s, w, _ := narrow(t)
			more := w.copy()
			more.commit()
			w.abort()
			want(t, "Fuse", d.Fuse(acts, string(someBits(r, try))), api.OK)
			if s.Commit() == api.OK {
				wantOpened(t, d, more)
				return
			}
			d.Start()
			got := opened(t, d)
			if !is(t, got, w) && !is(t, got, more) {
				t.Fatalf("behind %d acts: a mixture", acts)
			}
		}
	}
}

// someBits keep nothing, all, or some of what waits.
func someBits(r *rand.Rand, which int) []byte {
	b := make([]byte, 12)
	for i := range b {
		switch which {
		case 0:
		case 1:
			b[i] = 0xff
		default:
			b[i] = byte(r.Uint32())
		}
	}
	return b
}

// Open is cut at each act, again and again: what was committed is there, when one ends.
func TestAnOpenIsCut(t *testing.T) {
	r := rand.New(rand.NewPCG(8, 2))
	for try := range 12 {
		d, s, w := made(t, 96, 64)
		for round := range 4 {
			for i := range 1 + r.IntN(3) {
				allocBoth(t, s, w)
				putBoth(t, s, w, 1+r.IntN(9), full(fmt.Sprint(round, ",", i)))
			}
			commitBoth(t, s, w)
		}
		for acts := 0; ; acts++ {
			want(t, "Fuse", d.Fuse(acts, string(someBits(r, try))), api.OK)
			s, e := pages.Open(d)
			if e == api.OK {
				wantStore(t, s, w)
				break
			}
			want(t, "Open", e, api.ErrDead)
			d.Start()
			wantOpened(t, d, w)
		}
	}
}

// come lets the power come again, and opens the store, perhaps with more crashes meanwhile; it has w, or more.
func (x *run) come(t *testing.T, more *told) {
	t.Helper()
	d := x.s.Disk()
	want(t, "Start", d.Start(), api.OK)
	for x.r.IntN(3) == 0 {
		d.Fuse(x.r.IntN(30), string(someBits(x.r, x.r.IntN(4))))
		if _, e := pages.Open(d); e == api.OK {
			d.Crash(string(someBits(x.r, x.r.IntN(4))))
		}
		want(t, "Start", d.Start(), api.OK)
	}
	x.s = opened(t, d)
	if is(t, x.s, more) {
		x.w = more
	}
	wantStore(t, x.s, x.w)
}

// commit commits, with a fuse that may cut it.
func (x *run) commit(t *testing.T) {
	t.Helper()
	if x.r.IntN(4) == 0 {
		x.s.Disk().Fuse(x.r.IntN(40), string(someBits(x.r, x.r.IntN(4))))
	}
	more := x.w.copy()
	more.commit()
	e := x.s.Commit()
	if e == api.OK {
		x.w = more
		return
	}
	want(t, "Commit", e, api.ErrDead)
	x.w.abort()
	x.come(t, more)
}

func TestPowerGoesAnywhere(t *testing.T) {
	for seed := range uint64(30) {
		x := &run{r: rand.New(rand.NewPCG(85, seed))}
		_, x.s, x.w = made(t, 96, 64)
		for range 80 {
			for range x.r.IntN(12) {
				x.change(t)
			}
			if x.r.IntN(8) == 0 && x.s.Disk().Crash("") == api.OK {
				x.w.abort()
				x.come(t, x.w)
				continue
			}
			x.commit(t)
		}
		wantStore(t, x.s, x.w)
	}
}
