package place_test

import (
	"fmt"
	"math/rand/v2"
	"testing"

	"armarium/api"
	"armarium/boxes"
	"armarium/disk"
	"armarium/forest"
	"armarium/place"
)

// P15.4

// wantLive fails unless each box's live bytes are those of the records that lie there.
func wantLive(t *testing.T, s *boxes.Store, w *told) {
	t.Helper()
	live := make([]int, s.Len())
	for h := range w.places {
		l, e := place.Get(s, h)
		want(t, "Get", e, api.OK)
		live[l.Box] += 34 + l.Len
	}
	for i, n := range live {
		if x, e := s.State(i); x.Live != n || e != api.OK {
			t.Fatalf("the box %d: %v, %v; %d bytes lie there", i, x, e, n)
		}
	}
}

// behind answers the store of a disk behind a change that was cut, or done, and which of both it is; it is one of both, wholly.
func behind(t *testing.T, d *disk.Disk, was, more *told) (*boxes.Store, *told) {
	t.Helper()
	s, w := mounted(t, d), was
	m := entriesOf(t, s)
	n, e := s.Forest().Check()
	if want(t, "Check", e, api.OK); n != [8]int{forest.Places: len(m[forest.Places]), forest.Moved: len(m[forest.Moved]), forest.Boxes: len(m[forest.Boxes])} {
		t.Fatalf("the trees have %v keys", n)
	}
	if fmt.Sprint(m) == fmt.Sprint(more.entries()) {
		w = more
	}
	wantStore(t, s, w)
	wantLive(t, s, w)
	return s, w
}

// A change is done to a store, up to the first error, and to what is told.
type change struct {
	what string
	do   func(s *boxes.Store) api.Errno
	tell func(w *told)
}

func changes(hs []api.Hash) []change {
	move := func(i int) change {
		return change{fmt.Sprint("the hash ", i, " is moved"),
			func(s *boxes.Store) api.Errno { return place.Move(s, hs[i]) },
			func(w *told) { w.move(hs[i]) }}
	}
	settle := change{"one is settled",
		func(s *boxes.Store) api.Errno { _, e := place.Settle(s); return e },
		func(w *told) { w.settle() }}
	drop := func(i int) change {
		return change{fmt.Sprint("the hash ", i, " is dropped"),
			func(s *boxes.Store) api.Errno { return place.Drop(s, hs[i]) },
			func(w *told) { w.drop(hs[i]) }}
	}
	add := change{"one is stored",
		func(s *boxes.Store) api.Errno { return store(s, text(700), true) },
		func(w *told) { w.store(text(700), true) }}
	return []change{move(0), move(1), move(2), settle, drop(0), drop(4), add,
		together(move(0), settle, settle), together(drop(4), move(1), add, drop(1), settle)}
}

// together are changes in one.
func together(l ...change) change {
	all := change{
		do: func(s *boxes.Store) api.Errno {
			for _, c := range l {
				if e := c.do(s); e != api.OK {
					return e
				}
			}
			return api.OK
		},
		tell: func(w *told) {
			for _, c := range l {
				c.tell(w)
			}
		},
	}
	for _, c := range l {
		all.what += c.what + "; "
	}
	return all
}

// cutStore answers a store of which a few boxes are sealed, one is open, and the last of its hashes was moved.
func cutStore(t *testing.T) (*boxes.Store, *told, []api.Hash) {
	t.Helper()
	s, w := newStore(t, 6)
	hs := stored(t, s, w, text(1000), text(900), text(300), text(1200), text(100))
	moveBoth(t, s, w, hs[4])
	return mounted(t, diskOf(s)), w, hs // nothing is left to do for one more mount
}

// Changes are cut at each act, with all subsets of the first writes that wait.
func TestChangesAreCut(t *testing.T) {
	s, was, hs := cutStore(t)
	base := diskOf(s)
	for _, c := range changes(hs) {
		more := was.copy()
		c.tell(more)
		there, gone := 0, 0
		for acts, done := 0, false; !done; acts++ {
			for keep := range 1 << min(acts, 5) {
				d := base.Copy()
				s := mounted(t, d)
				want(t, "Fuse", d.Fuse(acts, string([]byte{byte(keep)})), api.OK)
				e := s.Forest().Do(func() api.Errno { return c.do(s) })
				if done = e == api.OK; done {
					d.Crash(string([]byte{byte(keep)}))
				} else {
					want(t, c.what, e, api.ErrDead)
				}
				d.Start()
				if _, w := behind(t, d, was, more); w == more {
					there++
				} else if gone++; done {
					t.Fatalf("%s: it was done, and is not there", c.what)
				}
			}
		}
		if there == 0 || gone == 0 {
			t.Errorf("%s: %d times it was there, %d times not", c.what, there, gone)
		}
	}
}

// someBits keep nothing, all, or some of what waits.
func someBits(r *rand.Rand) string {
	b := make([]byte, 16)
	for i, which := 0, r.IntN(4); i < len(b); i++ {
		switch which {
		case 0:
		case 1:
			b[i] = 0xff
		default:
			b[i] = byte(r.Uint32())
		}
	}
	return string(b)
}

// A run is a store that is changed, and what is told of it.
type run struct {
	r *rand.Rand
	s *boxes.Store
	w *told
}

// come lets the power come again, and mounts the store, perhaps with more crashes meanwhile; it is w, or more.
func (x *run) come(t *testing.T, d *disk.Disk, more *told) {
	t.Helper()
	want(t, "Start", d.Start(), api.OK)
	for x.r.IntN(3) == 0 {
		d.Fuse(x.r.IntN(40), someBits(x.r))
		if _, e := boxes.Mount(d); e == api.OK {
			d.Crash(someBits(x.r))
		}
		want(t, "Start", d.Start(), api.OK)
	}
	x.s, x.w = behind(t, d, x.w, more)
}

// some is a hash that has a place, or, now and then, one that has none.
func (x *run) some(now *told) api.Hash {
	if l := now.rising(); len(l) > 0 && x.r.IntN(9) > 0 {
		return l[x.r.IntN(len(l))]
	}
	return hashOf(someText(x.r, 9))
}

// step changes something, and says what was answered, if that is what is told.
func (x *run) step(t *testing.T, now *told) api.Errno {
	t.Helper()
	h := x.some(now)
	data := someText(x.r, x.r.IntN(1+x.r.IntN(800)))
	moved := x.r.IntN(3) == 0
	var got, told api.Errno
	switch x.r.IntN(8) {
	case 0, 1:
		if _, is := now.places[hashOf(data)]; is {
			return api.OK
		}
		got, told = store(x.s, data, moved), now.store(data, moved)
	case 2:
		got, told = place.Drop(x.s, h), now.drop(h)
	case 3, 4, 5:
		got, told = place.Move(x.s, h), now.move(h)
	default:
		is := now.settle()
		var did bool
		if did, got = place.Settle(x.s); got == api.OK && did != is {
			t.Fatalf("Settle: %v; want %v", did, is)
		}
	}
	if got != api.ErrDead {
		want(t, "a step", got, told)
	}
	return got
}

// change does a change of some steps, that may be cut, or answer an error.
func (x *run) change(t *testing.T) api.Errno {
	t.Helper()
	d := diskOf(x.s)
	answered := []api.Errno{api.OK, api.OK, api.OK, api.ErrHeld}[x.r.IntN(4)]
	if x.r.IntN(4) == 0 {
		d.Fuse(x.r.IntN(30), someBits(x.r))
	}
	now := x.w.copy()
	e := x.s.Forest().Do(func() api.Errno {
		for range x.r.IntN(6) {
			if e := x.step(t, now); e == api.ErrDead {
				return e
			}
		}
		if x.r.IntN(3) == 0 {
			if e := now.release(x.s); e == api.ErrDead {
				return e
			}
		}
		return answered
	})
	switch {
	case e == api.ErrDead && answered == api.OK:
		x.come(t, d, now)
	case e == api.ErrDead:
		x.come(t, d, x.w)
	default:
		if want(t, "Do", e, answered); e == api.OK {
			x.w = now
		}
	}
	return e
}

func TestPowerGoesAnywhere(t *testing.T) {
	counted := map[api.Errno]int{}
	moved := 0
	for seed := range uint64(16) {
		n := 4 + int(seed)%8
		x := &run{r: rand.New(rand.NewPCG(154, seed))}
		x.s, x.w = newStore(t, n)
		for range 100 {
			counted[x.change(t)]++
			if d := diskOf(x.s); x.r.IntN(8) == 0 {
				d.Crash(someBits(x.r))
				x.come(t, d, x.w)
			}
			wantStore(t, x.s, x.w)
			wantLive(t, x.s, x.w)
			moved += len(x.w.moved)
		}
	}
	if counted[api.OK] < 500 || counted[api.ErrDead] < 150 || counted[api.ErrHeld] < 150 || moved < 1000 {
		t.Errorf("%v, %d moved", counted, moved)
	}
}
