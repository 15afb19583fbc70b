package boxes_test

import (
	"maps"
	"math/rand/v2"
	"testing"

	"armarium/api"
	"armarium/boxes"
	"armarium/disk"
)

// P14.5

// behind answers the store of a disk behind a change that was cut, or done, and which of both it is; it is one of both, wholly.
func behind(t *testing.T, d *disk.Disk, was, more told) (*boxes.Store, told) {
	t.Helper()
	s := mounted(t, d)
	m := entriesOf(t, s)
	n, e := s.Forest().Check()
	if want(t, "Check", e, api.OK); n != [8]int{7: len(m)} {
		t.Fatalf("the trees have %v keys", n)
	}
	w := was
	if maps.Equal(m, more.entries()) {
		w = more
	}
	wantStore(t, s, w)
	return s, w
}

// A change is done to a store, up to the first error, and to what is told.
type change struct {
	what string
	do   func(s *boxes.Store) api.Errno
	tell func(w told)
}

func changes() []change {
	add := func(s *boxes.Store, n int) api.Errno { _, e := s.Append(api.Hash{9}, text(n), true); return e }
	shut := func(s *boxes.Store) api.Errno { _, e := s.Shut(); return e }
	return []change{
		{"a record behind others",
			func(s *boxes.Store) api.Errno { return add(s, 1000) },
			func(w told) { w.append(api.Hash{9}, text(1000), true) }},
		{"a box is sealed, and another one is open",
			func(s *boxes.Store) api.Errno { return add(s, 2014) },
			func(w told) { w.append(api.Hash{9}, text(2014), true) }},
		{"a box is shut",
			shut,
			func(w told) { w.shut() }},
		{"a box is shut, and a record goes to another one",
			func(s *boxes.Store) api.Errno { shut(s); return add(s, 0) },
			func(w told) { w.shut(); w.append(api.Hash{9}, "", true) }},
		{"many records",
			func(s *boxes.Store) api.Errno { add(s, 1500); add(s, 400); return add(s, 600) },
			func(w told) {
				for _, n := range []int{1500, 400, 600} {
					w.append(api.Hash{9}, text(n), true)
				}
			}},
		{"a box is free",
			func(s *boxes.Store) api.Errno { s.Live(1, -1968); return s.Release(1) },
			func(w told) { w.lives(1, -1968); w.release(1) }},
	}
}

// Changes are cut at each act, with all subsets of the first writes that wait.
func TestChangesAreCut(t *testing.T) {
	for _, c := range changes() {
		s, was := sealedStore(t, 6, 2)
		base, more := diskOf(s), was.copy()
		c.tell(more)
		mounted(t, base) // nothing is left to do for one more mount
		there, gone := 0, 0
		for acts, done := 0, false; !done; acts++ {
			for keep := range 1 << min(acts, 6) {
				d := base.Copy()
				s := mounted(t, d)
				want(t, "Fuse", d.Fuse(acts, string([]byte{byte(keep)})), api.OK)
				e := s.Forest().Do(func() api.Errno { return c.do(s) })
				if done = e == api.OK; done {
					d.Crash(string([]byte{byte(keep)}))
				} else {
					want(t, c.what, e, api.ErrDead)
				}
				d.Start()
				if _, w := behind(t, d, was, more); maps.Equal(w.entries(), more.entries()) {
					there++
				} else if gone++; done {
					t.Fatalf("%s: it was done, and is not there", c.what)
				}
			}
		}
		if there == 0 || gone == 0 {
			t.Errorf("%s: %d times it was there, %d times not", c.what, there, gone)
		}
	}
}

// Where the power goes within a change that goes on when there is power again, nothing of it is committed: its records are not there.
func TestAChangeGoesOnBehindTheEndOfThePower(t *testing.T) {
	for _, c := range changes()[:5] {
		for acts := range 3 {
			s, was := sealedStore(t, 6, 2)
			d := diskOf(s)
			want(t, "Fuse", d.Fuse(acts, ""), api.OK)
			died := false
			e := s.Forest().Do(func() api.Errno {
				c.do(s)
				died = !d.Alive()
				d.Start()
				return api.OK
			})
			if !died {
				continue
			}
			want(t, c.what, e, api.ErrDead)
			wantAnswers(t, answersOfAll(s), api.ErrDead) // for ever
			wantStore(t, mounted(t, d), was)
		}
	}
}

// someBits keep nothing, all, or some of what waits.
func someBits(r *rand.Rand) string {
	b := make([]byte, 16)
	for i, which := 0, r.IntN(4); i < len(b); i++ {
		switch which {
		case 0:
		case 1:
			b[i] = 0xff
		default:
			b[i] = byte(r.Uint32())
		}
	}
	return string(b)
}

// A run is a store that is changed, and what is told of it.
type run struct {
	r *rand.Rand
	s *boxes.Store
	w told
}

// come lets the power come again, and mounts the store, perhaps with more crashes meanwhile; it is w, or more.
func (x *run) come(t *testing.T, d *disk.Disk, more told) {
	t.Helper()
	want(t, "Start", d.Start(), api.OK)
	for x.r.IntN(3) == 0 {
		d.Fuse(x.r.IntN(40), someBits(x.r))
		if _, e := boxes.Mount(d); e == api.OK {
			d.Crash(someBits(x.r))
		}
		want(t, "Start", d.Start(), api.OK)
	}
	x.s, x.w = behind(t, d, x.w, more)
}

// step changes something, and says whether it goes on.
func (x *run) step(now told) api.Errno {
	i := x.r.IntN(len(now))
	switch x.r.IntN(12) {
	case 0:
		now.shut()
		_, e := x.s.Shut()
		return e
	case 1, 2:
		by := -x.r.IntN(now[i].live + 1)
		now.lives(i, by)
		return x.s.Live(i, by)
	case 3, 4:
		by := -now[i].live
		now.lives(i, by)
		return x.s.Live(i, by)
	default:
		h, data, moved := someHash(x.r), someText(x.r, x.r.IntN(1+x.r.IntN(2015))), x.r.IntN(3) == 0
		now.append(h, data, moved)
		_, e := x.s.Append(h, data, moved)
		return e
	}
}

// release lets each box be free that may be; so a change that does so appends nothing behind it.
func (x *run) release(now told) api.Errno {
	for i := range now {
		if e := now.release(i); e == api.OK {
			if e := x.s.Release(i); e != api.OK {
				return e
			}
		}
	}
	return api.OK
}

// change does a change of some steps, that may be cut, or answer an error.
func (x *run) change(t *testing.T) api.Errno {
	t.Helper()
	d := diskOf(x.s)
	answered := []api.Errno{api.OK, api.OK, api.OK, api.ErrHeld}[x.r.IntN(4)]
	if x.r.IntN(4) == 0 {
		d.Fuse(x.r.IntN(30), someBits(x.r))
	}
	now := x.w.copy()
	e := x.s.Forest().Do(func() api.Errno {
		for range x.r.IntN(6) {
			if e := x.step(now); e == api.ErrDead {
				return e
			}
		}
		if x.r.IntN(3) == 0 {
			if e := x.release(now); e == api.ErrDead {
				return e
			}
		}
		return answered
	})
	switch {
	case e == api.ErrDead && answered == api.OK:
		x.come(t, d, now)
	case e == api.ErrDead:
		x.come(t, d, x.w)
	default:
		if want(t, "Do", e, answered); e == api.OK {
			x.w = now
		}
	}
	return e
}

func TestPowerGoesAnywhere(t *testing.T) {
	counted := map[api.Errno]int{}
	for seed := range uint64(24) {
		n := 3 + int(seed)%8
		x := &run{rand.New(rand.NewPCG(145, seed)), newStore(t, n), make(told, n)}
		for range 100 {
			counted[x.change(t)]++
			if d := diskOf(x.s); x.r.IntN(8) == 0 {
				d.Crash(someBits(x.r))
				x.come(t, d, x.w)
			}
			wantStore(t, x.s, x.w)
		}
	}
	if counted[api.OK] < 500 || counted[api.ErrDead] < 200 || counted[api.ErrHeld] < 200 {
		t.Errorf("%v", counted)
	}
}
