package boxes_test

import (
	"math/rand/v2"
	"slices"
	"testing"

	"armarium/api"
	"armarium/boxes"
	"armarium/disk"
	"armarium/forest"
)

// P14.3

func TestTheChaptersExample(t *testing.T) {
	s, w := newStore(t, 3), make(told, 3)
	if l := appended(t, s, w, text(100), false); l != (boxes.Loc{Box: 0, Off: 0, Len: 100}) {
		t.Errorf("%v", l)
	}
	if l := appended(t, s, w, text(2000), false); l != (boxes.Loc{Box: 1, Off: 0, Len: 2000}) {
		t.Errorf("%v", l)
	}
	if x, e := s.State(0); x != (boxes.State{Kind: boxes.Sealed, Used: 134, Live: 134}) || e != api.OK {
		t.Errorf("%v, %v", x, e)
	}
	if x, e := s.State(1); x != (boxes.State{Kind: boxes.Open, Used: 2034, Live: 2034}) || e != api.OK {
		t.Errorf("%v, %v", x, e)
	}
	wantStore(t, s, w)
}

// Records of all lengths go in up to the last byte of a box.
func TestAppendOfAllLengths(t *testing.T) {
	for n := 0; n <= 2014; n += 1 + n/3 {
		for _, first := range []int{0, 1, 444, 477, 478, 479, 980, 1000, 1980 - min(n, 1980), 2014} {
			s, w := newStore(t, 4), make(told, 4)
			appended(t, s, w, text(first), false)
			appended(t, s, w, text(n), false)
			wantStore(t, s, w)
			l := appended(t, s, w, text(10), true)
			if behind := w[0].kind == boxes.Open; behind != (l.Box == 0) {
				t.Fatalf("%d, %d: %v", first, n, l)
			}
			wantStore(t, s, w)
		}
	}
}

func TestABoxIsFull(t *testing.T) {
	s, w := newStore(t, 4), make(told, 4)
	appended(t, s, w, text(1000), false)
	if l := appended(t, s, w, text(2048-1034-34), false); l.Box != 0 || w[0].used != 2048 {
		t.Fatalf("%v: the last byte is not used", l)
	}
	if l := appended(t, s, w, "", false); l != (boxes.Loc{Box: 1}) {
		t.Fatalf("%v: a full box had room", l)
	}
	appended(t, s, w, text(1000), false)
	if l := appended(t, s, w, text(2048-1068-34+1), false); l != (boxes.Loc{Box: 2, Len: 947}) {
		t.Fatalf("%v: a byte too many went in", l)
	}
	wantStore(t, s, w)
}

// More data than a record has is ErrArg, ahead of all but ErrNil.
func TestAppendOfTooMuch(t *testing.T) {
	s, w := newStore(t, 3), make(told, 3)
	for range 3 {
		wantUntouched(t, "Append of too much", diskOf(s), func() {
			for _, n := range []int{2015, 2016, 2048, 2049, 65536, 65536 + 100} {
				for _, moved := range []bool{false, true} {
					_, e := s.Append(api.Hash{}, text(n), moved)
					want(t, "Append", e, api.ErrArg)
					do(t, s, func() { appendBoth(t, s, w, api.Hash{}, text(n), moved) })
				}
			}
		})
		wantStore(t, s, w)
		appended(t, s, w, text(2014), true)
	}
	wantStore(t, s, w) // all boxes are full
}

// The last free box is kept for what is moved; without a free one nothing that is new is appended.
func TestFull(t *testing.T) {
	for _, n := range []int{3, 4, 9} {
		s, w := newStore(t, n), make(told, n)
		for range n - 1 {
			appended(t, s, w, text(1500), false)
		}
		refused := func(data string, moved bool) {
			t.Helper()
			wantUntouched(t, "Append", diskOf(s), func() {
				do(t, s, func() {
					_, e := appendBoth(t, s, w, api.Hash{7}, data, moved)
					want(t, "Append", e, api.ErrFull)
				})
			})
			wantStore(t, s, w)
		}
		refused(text(1500), false)
		refused(text(481), false)
		appended(t, s, w, text(100), false) // what goes in, goes in
		refused(text(1500), false)
		appended(t, s, w, text(300), true)
		if l := appended(t, s, w, text(1500), true); l.Box != n-1 {
			t.Fatalf("%v", l)
		}
		refused("", false)
		refused(text(2014), true)
		refused(text(481), true)
		appended(t, s, w, text(100), true)
		refused(text(2014), false)
		for w[n-1].used < 2048 {
			appended(t, s, w, text(min(200, 2048-w[n-1].used-34)), true)
		}
		refused("", true)
		refused("", false)
		do(t, s, func() {
			want(t, "Live", s.Live(1, -w[1].live), w.lives(1, -w[1].live))
			want(t, "Release", s.Release(1), w.release(1))
		})
		refused("", false)
		if l := appended(t, s, w, "", true); l != (boxes.Loc{Box: 1}) {
			t.Fatalf("%v", l)
		}
		wantStore(t, s, w)
	}
}

// Of several open boxes that of the least number is the open one, whether it has room or not.
func TestSeveralOpenBoxes(t *testing.T) {
	one := recordTold(api.Hash{5}, text(1800))
	some := func() (*boxes.Store, told) {
		s, w := newStore(t, 9), make(told, 9)
		for _, i := range []int{5, 2, 7} {
			do(t, s, func() { // boxes are free up to that one, and so it is opened
				for k := range i {
					s.Forest().Put(forest.Boxes, number(2, k), "\x02\x00\x00\x00\x00")
				}
				for k := i; k < 9; k++ {
					s.Forest().Delete(forest.Boxes, number(2, k))
				}
				l, e := s.Append(api.Hash{5}, text(1800), true)
				if want(t, "Append", e, api.OK); l.Box != i {
					t.Fatalf("%v", l)
				}
			})
			w[i].append1(api.Hash{5}, text(1800))
		}
		do(t, s, func() {
			for i := range 9 {
				s.Forest().Delete(forest.Boxes, number(2, i))
				if w[i].kind == boxes.Open {
					s.Forest().Put(forest.Boxes, number(2, i), "\x01"+number(2, len(one))+number(2, len(one)))
				}
			}
		})
		wantStore(t, s, w)
		return s, w
	}
	s, w := some()
	if l := appended(t, s, w, text(100), false); l.Box != 2 || l.Off != len(one) {
		t.Fatalf("%v", l)
	}
	wantStore(t, s, w)
	if l := appended(t, s, w, text(200), false); l.Box != 0 {
		t.Fatalf("%v", l)
	}
	wantStore(t, s, w) // 2 is sealed, 5 and 7 are not
	s, w = some()
	for range 4 {
		do(t, s, func() {
			if is, e := s.Shut(); is != w.shut() || e != api.OK {
				t.Fatalf("Shut: %v, %v", is, e)
			}
		})
		wantStore(t, s, w)
	}
}

// append1 lets a box be open, with one record.
func (b *box) append1(h api.Hash, data string) {
	w := make(told, 3)
	w.append(h, data, true)
	*b = w[0]
}

// A write is of a sector.
type write struct {
	at int
	b  string
}

// writesTold are those of Append, as the chapter tells them, in order, on a disk as it is.
func writesTold(s *boxes.Store, was told, h api.Hash, data string, moved bool) []write {
	w := was.copy()
	l, e := w.append(h, data, moved)
	if e != api.OK {
		return nil
	}
	var all []write
	if i := was.least(1); i >= 0 && i != l.Box {
		all = append(all, write{s.Sector(i), headTold(i, was[i].bytes())})
	}
	room := ""
	for k := range 4 {
		room += string(diskOf(s).Raw(s.Sector(l.Box) + 1 + k))
	}
	b := recordTold(h, data)
	room = room[:l.Off] + b + room[l.Off+len(b):]
	for k := range 4 {
		if 512*k < l.Off+len(b) && 512*(k+1) > l.Off {
			all = append(all, write{s.Sector(l.Box) + 1 + k, room[512*k : 512*(k+1)]})
		}
	}
	return all
}

// written are a disk's sectors behind writes.
func written(d *disk.Disk, l []write) []string {
	now := sectorsOf(d)
	for _, x := range l {
		now[x.at] = x.b
	}
	return now
}

// cutAppend answers the sectors of a disk, of which a copy is mounted, whose power goes behind so many acts of Append, and what Append answered.
func cutAppend(t *testing.T, d *disk.Disk, acts int, keep string, add func(s *boxes.Store) api.Errno) ([]string, api.Errno) {
	t.Helper()
	c := d.Copy()
	s := mounted(t, c)
	var e api.Errno
	var now []string
	s.Forest().Do(func() api.Errno {
		c.Fuse(acts, keep)
		e = add(s)
		now = sectorsOf(c)
		return api.ErrHeld
	})
	return now, e
}

// Just the sectors are written that the chapter names, in its order, and all of them are flushed once.
func TestWhatAppendWrites(t *testing.T) {
	r := rand.New(rand.NewPCG(14, 2))
	sealing := 0
	for _, first := range []int{-1, 0, 300, 444, 478, 479, 900, 1000, 1500, 1980, 2014} {
		for _, n := range []int{0, 1, 34, 100, 444, 478, 479, 500, 990, 1014, 1015, 1490, 2014} {
			s, w := newStore(t, 4), make(told, 4)
			if first >= 0 {
				appended(t, s, w, text(first), false)
			}
			s = mounted(t, diskOf(s)) // nothing is left to do for one more mount
			d, h, data := diskOf(s), someHash(r), someText(r, n)
			l := writesTold(s, w, h, data, false)
			if len(l) > 0 && l[0].at == s.Sector(0) {
				sealing++
			}
			wantWrites(t, d, l, func(s *boxes.Store) api.Errno { _, e := s.Append(h, data, false); return e })
		}
	}
	if sealing < 20 {
		t.Errorf("%d sealed a box", sealing)
	}
}

// wantWrites fails unless what is done within a change writes these sectors, in order, and flushes them.
func wantWrites(t *testing.T, d *disk.Disk, l []write, add func(s *boxes.Store) api.Errno) {
	t.Helper()
	base := d.Copy()
	mounted(t, base)
	for acts := range len(l) + 1 {
		now, e := cutAppend(t, d, acts, "\xff", add)
		if want(t, "cut", e, api.ErrDead); !slices.Equal(now, written(base, l[:acts])) {
			t.Fatalf("behind %d of %d writes: other sectors", acts, len(l))
		}
		now, e = cutAppend(t, d, acts, "", add)
		if want(t, "cut", e, api.ErrDead); !slices.Equal(now, sectorsOf(base)) {
			t.Fatalf("behind %d of %d writes: something was flushed", acts, len(l))
		}
	}
	now, e := cutAppend(t, d, len(l)+1, "", add)
	if want(t, "not cut", e, api.OK); !slices.Equal(now, written(base, l)) {
		t.Fatalf("behind %d writes and a flush: other sectors", len(l))
	}
}

func TestWhatShutWrites(t *testing.T) {
	s, w := sealedStore(t, 5, 2)
	s = mounted(t, diskOf(s))
	l := []write{{s.Sector(2), headTold(2, w[2].bytes())}}
	wantWrites(t, diskOf(s), l, func(s *boxes.Store) api.Errno { _, e := s.Shut(); return e })
}

func TestShut(t *testing.T) {
	s, w := newStore(t, 4), make(told, 4)
	none := func() {
		t.Helper()
		wantUntouched(t, "Shut of none", diskOf(s), func() {
			do(t, s, func() {
				if is, e := s.Shut(); is || e != api.OK {
					t.Errorf("%v, %v", is, e)
				}
			})
		})
		wantStore(t, s, w)
	}
	none()
	for i := range 4 {
		appended(t, s, w, text(10*i), true)
		do(t, s, func() {
			if is, e := s.Shut(); !is || !w.shut() || e != api.OK {
				t.Errorf("%v, %v", is, e)
			}
		})
		wantStore(t, s, w)
		none()
	}
	if w.count(boxes.Sealed) != 4 {
		t.Error("a box was opened that was there already")
	}
}

// A box is shut whatever its bytes are, and the head is theirs.
func TestShutOfBytesThatAreNoRecords(t *testing.T) {
	s, w := newStore(t, 4), make(told, 4)
	appended(t, s, w, text(600), false)
	d := diskOf(s)
	b := d.Raw(s.Sector(0) + 1)
	b[33] ^= 1
	want(t, "Write", d.Write(s.Sector(0)+1, b), api.OK)
	want(t, "Flush", d.Flush(), api.OK)
	do(t, s, func() {
		if is, e := s.Shut(); !is || e != api.OK {
			t.Errorf("%v, %v", is, e)
		}
	})
	bytes := w[0].bytes()
	bytes = bytes[:33] + string(b[33]) + bytes[34:]
	if string(d.Raw(s.Sector(0))) != headTold(0, bytes) {
		t.Error("another head")
	}
	if _, e := s.Records(0); e != api.ErrSpoilt {
		t.Error(e)
	}
}

// Outside of a change all that changes is ErrArg, and the disk is left as it is.
func TestOutsideOfAChange(t *testing.T) {
	s, w := sealedStore(t, 5, 2)
	do(t, s, func() { want(t, "Live", s.Live(0, -w[0].live), w.lives(0, -w[0].live)) })
	wantUntouched(t, "outside of a change", diskOf(s), func() {
		for _, data := range []string{"", text(100), text(2014)} {
			for _, moved := range []bool{false, true} {
				l, e := s.Append(api.Hash{1}, data, moved)
				if want(t, "Append", e, api.ErrArg); l != (boxes.Loc{}) {
					t.Errorf("%v", l)
				}
			}
		}
		want(t, "Live", s.Live(1, -1), api.ErrArg)
		want(t, "Live", s.Live(1, 0), api.ErrArg)
		want(t, "Release", s.Release(0), api.ErrArg)
		if is, e := s.Shut(); is || e != api.ErrArg {
			t.Errorf("Shut: %v, %v", is, e)
		}
	})
	wantStore(t, s, w)
}

func TestLive(t *testing.T) {
	s, w := sealedStore(t, 5, 2)
	for range 2 {
		for i := -1; i < 6; i++ {
			for _, by := range []int{lowest, lowest + 1, -65536, -2049, -2048, -1969, -1968, -1967, -1235, -1234, -235, -234, -233, -1, 0, 1, 2, 233, 234, 235, 1234, 1968, 1969, 2048, 65536, greatest - 1, greatest} {
				do(t, s, func() {
					if e := s.Live(i, by); e != w.lives(i, by) {
						t.Fatalf("Live of %d, %d: %v", i, by, e)
					}
					if i >= 0 && i < 5 {
						wantBox(t, s, i, w[i])
					}
				})
			}
		}
		wantStore(t, s, w)
	}
}

// Live takes nothing of a box's bytes, and its numbers go both ways up to the last byte.
func TestLiveUpAndDown(t *testing.T) {
	s, w := sealedStore(t, 4, 1)
	for _, i := range []int{0, 1} {
		used := w[i].used
		for _, by := range []int{-used, used, -1, 1 - used, used - 1, -used + 1, used} {
			do(t, s, func() { want(t, "Live", s.Live(i, by), w.lives(i, by)) })
			wantStore(t, s, w)
		}
	}
}

func TestRelease(t *testing.T) {
	s, w := sealedStore(t, 5, 2)
	refused := func(i int) {
		t.Helper()
		do(t, s, func() { want(t, "Release", s.Release(i), api.ErrArg) })
		wantStore(t, s, w)
	}
	for i := -1; i < 6; i++ {
		refused(i)
	}
	do(t, s, func() { want(t, "Live", s.Live(0, 1-w[0].live), w.lives(0, 1-w[0].live)) })
	refused(0) // one byte is live
	do(t, s, func() {
		want(t, "Live", s.Live(0, -1), w.lives(0, -1))
		want(t, "Live", s.Live(2, -w[2].live), w.lives(2, -w[2].live))
	})
	refused(2) // it is open
	d := diskOf(s)
	was := sectorsOf(d)[s.Sector(0):]
	do(t, s, func() { want(t, "Release", s.Release(0), w.release(0)) })
	wantStore(t, s, w)
	refused(0) // it is free
	if !slices.Equal(sectorsOf(d)[s.Sector(0):], was) {
		t.Error("sectors of boxes were written")
	}
	if l := appended(t, s, w, text(2000), false); l.Box != 0 {
		t.Errorf("%v", l)
	}
	wantStore(t, s, w)
}

// A change that is gone changes no box.
func TestChangesThatAreGone(t *testing.T) {
	s, w := sealedStore(t, 6, 2)
	do(t, s, func() { want(t, "Live", s.Live(1, -w[1].live), w.lives(1, -w[1].live)) })
	e := s.Forest().Do(func() api.Errno {
		gone := w.copy()
		for n := range 20 {
			appendBoth(t, s, gone, api.Hash{byte(n)}, text(100*n), n%2 == 0)
		}
		want(t, "Live", s.Live(0, -20), gone.lives(0, -20))
		want(t, "Release", s.Release(1), gone.release(1))
		wantStore(t, s, gone)
		return api.ErrName
	})
	want(t, "Do", e, api.ErrName)
	wantStore(t, s, w)
	wantStore(t, mounted(t, diskOf(s)), w)
	appended(t, s, w, text(1999), false)
	wantStore(t, s, w)
}

// What the forest has no page for is ErrFull, and nothing is written.
func TestNoPageIsLeft(t *testing.T) {
	s := newStore(t, 5)
	wantUntouched(t, "no page is left", diskOf(s), func() {
		e := s.Forest().Do(func() api.Errno {
			for e := api.OK; e == api.OK; {
				_, e = s.Forest().Store().Alloc()
			}
			l, e := s.Append(api.Hash{}, "ab", false)
			if want(t, "Append", e, api.ErrFull); l != (boxes.Loc{}) {
				t.Errorf("%v", l)
			}
			return api.OK
		})
		want(t, "Do", e, api.ErrFull)
	})
	wantStore(t, s, make(told, 5))
}

// A run of any calls answers what the chapter says.
func TestAnyCalls(t *testing.T) {
	r := rand.New(rand.NewPCG(14, 3))
	for _, n := range []int{3, 4, 7, 30} {
		s, w := newStore(t, n), make(told, n)
		full, freed := 0, 0
		for range 400 {
			do(t, s, func() {
				for range r.IntN(6) {
					switch i := r.IntN(n+2) - 1; r.IntN(10) {
					case 0:
						by := r.IntN(4200) - 2100
						want(t, "Live", s.Live(i, by), w.lives(i, by))
					case 1:
						if i >= 0 && i < n {
							want(t, "Live", s.Live(i, -w[i].live), w.lives(i, -w[i].live))
						}
						e := w.release(i)
						if want(t, "Release", s.Release(i), e); e == api.OK {
							freed++
						}
					case 2:
						if is, e := s.Shut(); is != w.shut() || e != api.OK {
							t.Fatalf("Shut: %v, %v", is, e)
						}
					default:
						_, e := appendBoth(t, s, w, someHash(r), someText(r, r.IntN(1+r.IntN(2020))), r.IntN(3) == 0)
						if e == api.ErrFull {
							full++
						}
					}
				}
			})
			wantStore(t, s, w)
		}
		if full < 20 || freed < 20 {
			t.Errorf("%d boxes: %d were full, %d were free", n, full, freed)
		}
	}
}

// What is handed out and in is nobody else's.
func TestRecordsAreNewMemory(t *testing.T) {
	s, w := sealedStore(t, 4, 1)
	l, e := s.Records(0)
	want(t, "Records", e, api.OK)
	clear(l[:cap(l)])
	wantStore(t, s, w)
}
