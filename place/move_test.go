package place_test

import (
	"testing"

	"armarium/api"
	"armarium/boxes"
	"armarium/forest"
	"armarium/place"
)

// P15.3

func TestTheChaptersExample(t *testing.T) {
	s, w := newStore(t, 3)
	h := stored(t, s, w, "hello")[0]
	moveBoth(t, s, w, h)
	if l, e := place.Get(s, h); l != (boxes.Loc{Box: 0, Off: 39, Len: 5}) || e != api.OK {
		t.Errorf("%v, %v", l, e)
	}
	if x, e := s.State(0); x != (boxes.State{Kind: boxes.Open, Used: 78, Live: 39}) || e != api.OK {
		t.Errorf("%v, %v", x, e)
	}
	wantStore(t, s, w)
}

// A hash is moved within its box, into another one, and into one that is opened for it.
func TestMove(t *testing.T) {
	for _, lens := range [][]int{{5}, {5, 7}, {900, 1000}, {1000, 1000}, {1000, 1000, 1000}, {0, 2014}, {2014, 0}, {2014, 2014}, {600, 600, 600, 600}} {
		for which := range lens {
			s, w := newStore(t, 7)
			var hs []api.Hash
			for i, n := range lens {
				hs = append(hs, stored(t, s, w, text(n)[:max(0, n-1)]+string(rune('a' + i))[:min(n, 1)])...)
			}
			for again := range 3 {
				at := w.places[hs[which]]
				moveBoth(t, s, w, hs[which])
				if l := w.lies(hs[which]); l == at || w.places[hs[which]] != at {
					t.Fatalf("%v lies at %v", at, l)
				}
				wantStore(t, s, w)
				if got, _, e := s.Read(at); got != hs[which] || e != api.OK {
					t.Fatalf("where it lay: %v", e) // the old record is still there
				}
				wantRefused(t, s, api.ErrArg, moveOf(s, hs[which])) // it was moved already
				if settleBoth(t, s, w); w.places[hs[which]] == at {
					t.Fatalf("%d: it is not settled", again)
				}
				wantStore(t, s, w)
			}
		}
	}
}

// Moved already is told ahead of what is rotten, and of what boxes say.
func TestMoveOfWhatWasMoved(t *testing.T) {
	s, w := newStore(t, 3)
	h := stored(t, s, w, text(900))[0]
	moveBoth(t, s, w, h)
	stored(t, s, w, text(2000), text(2001)) // no box is free
	wantRefused(t, s, api.ErrArg, moveOf(s, h))
	spoil(t, s, 0, 100, 1)
	wantRefused(t, s, api.ErrArg, moveOf(s, h))
	l := w.lies(h)
	spoil(t, s, l.Box, l.Off+100, 1)
	wantRefused(t, s, api.ErrArg, moveOf(s, h))
	want(t, "outside of a change", moveOf(s, h)(), api.ErrArg)
	wantPlaces(t, s, w)
}

// The last free box is there for what is moved; without one what has no room is not moved, and nothing is changed.
func TestMoveWithoutRoom(t *testing.T) {
	s, w := newStore(t, 3)
	hs := stored(t, s, w, text(1000), text(1500))
	do(t, s, func() { want(t, "to store", store(s, text(900), false), api.ErrFull) })
	moveBoth(t, s, w, hs[0])
	if l := w.lies(hs[0]); l.Box != 2 {
		t.Fatalf("%v", l)
	}
	wantStore(t, s, w)
	wantRefused(t, s, api.ErrFull, moveOf(s, hs[1]))
	wantStore(t, s, w)
	settleBoth(t, s, w)
	wantRefused(t, s, api.ErrFull, moveOf(s, hs[1]))
	do(t, s, func() {
		w.boxes[0] = box{}
		if _, e := s.Shut(); e != api.OK { // the box 2
			t.Fatal(e)
		}
		w.boxes[2].kind = boxes.Sealed
		want(t, "Release", s.Release(0), api.OK)
	})
	moveBoth(t, s, w, hs[1])
	if l := w.lies(hs[1]); l.Box != 0 {
		t.Fatalf("%v", l)
	}
	wantStore(t, s, w)
}

// Where fewer bytes are live than the record has, boxes refuse it, and nothing is appended.
func TestMoveOfTooMuch(t *testing.T) {
	s, w := newStore(t, 4)
	hs := stored(t, s, w, text(40), text(2014))
	for _, h := range hs {
		b := &w.boxes[w.places[h].Box]
		for _, live := range []int{0, 1, 33, 73} {
			b.live = live
			putEntry(t, s, forest.Boxes, number(2, w.places[h].Box), number(1, int(b.kind))+number(2, b.used)+number(2, live))
			wantRefused(t, s, api.ErrArg, moveOf(s, h))
			wantStore(t, s, w)
		}
	}
}

// The first one is that of the least box, and in it of the least offset, whatever was moved first.
func TestSettleInOrder(t *testing.T) {
	s, w := newStore(t, 9)
	var all []string
	for i := range 40 {
		all = append(all, text(i)+"some of each box"+text(200))
	}
	hs := stored(t, s, w, all...)
	for i := range hs {
		if i%2 == 0 {
			moveBoth(t, s, w, hs[i*7%40])
		}
	}
	for n := 20; n > 0; n-- {
		if len(w.moved) != n || !settleBoth(t, s, w) {
			t.Fatalf("%d are moved; want %d", len(w.moved), n)
		}
		wantStore(t, s, w)
	}
	wantUntouched(t, "nothing to settle", diskOf(s), func() {
		for range 2 {
			if settleBoth(t, s, w) {
				t.Fatal("something was settled")
			}
		}
		if is, e := place.Settle(s); is || e != api.OK {
			t.Fatalf("outside of a change: %v, %v", is, e)
		}
	})
}

// An offset's two bytes, and a box's, are held against each other highest first.
func TestSettleOfTheFirstKey(t *testing.T) {
	s, w := newStore(t, 6)
	hs := stored(t, s, w, text(221), "", text(5), text(1900), text(300)) // at 0, 255 and 289 in the box 0, and in the boxes 1 and 2
	for _, i := range []int{4, 2, 3, 1, 0} {
		moveBoth(t, s, w, hs[i])
	}
	wantStore(t, s, w)
	for i, h := range hs {
		at := w.places[h]
		settleBoth(t, s, w)
		if w.places[h] == at {
			t.Fatalf("the %dth is not settled", i)
		}
		wantStore(t, s, w)
	}
}

// What was dropped is not settled.
func TestSettleOfWhatWasDropped(t *testing.T) {
	s, w := newStore(t, 4)
	hs := stored(t, s, w, "a", "b", "c")
	for _, h := range hs {
		moveBoth(t, s, w, h)
	}
	dropBoth(t, s, w, hs[0])
	dropBoth(t, s, w, hs[2])
	at := w.places[hs[1]]
	if settleBoth(t, s, w); w.places[hs[1]] == at || settleBoth(t, s, w) {
		t.Fatal("another one was settled")
	}
	wantStore(t, s, w)
}

// Entries that are none: no record begins there, or it is of a hash that does not lie there.
func TestSettleOfEntriesThatAreNone(t *testing.T) {
	for _, c := range []struct {
		what, from string
		e          api.Errno
	}{
		{"within a record", "\x00\x00\x00\x01", api.ErrSpoilt},
		{"behind all records", "\x00\x00\x00\x78", api.ErrSpoilt},
		{"a box that is free", "\x00\x03\x00\x00", api.ErrSpoilt},
		{"beyond a box", "\x00\x00\xff\xff", api.ErrSpoilt},
		{"a box that there is not", "\x00\x04\x00\x00", api.ErrArg},
		{"a hash without a place", "\x00\x00\x00\x00", api.ErrSpoilt},
		{"a hash with another place", "\x00\x00\x00\x23", api.ErrSpoilt},
	} {
		s, w := newStore(t, 4)
		hs := stored(t, s, w, "a", "b", "c") // at 0, 35 and 70
		dropBoth(t, s, w, hs[0])
		moveBoth(t, s, w, hs[1])
		settleBoth(t, s, w) // so b is at 105
		putEntry(t, s, forest.Moved, c.from, "\x00\x00\x00\x46")
		wantRefused(t, s, c.e, settleOf(t, s))
		want(t, c.what, settleOf(t, s)(), c.e)
		do(t, s, func() { s.Forest().Delete(forest.Moved, c.from) })
		wantStore(t, s, w)
	}
}

// A hash whose place is within a record does not lie there, and neither is it settled.
func TestSettleOfPlacesWithinARecord(t *testing.T) {
	s, w := newStore(t, 4)
	hs := stored(t, s, w, "a", "b", "c") // at 0, 35 and 70
	for _, h := range []api.Hash{hs[0], hs[1], hs[2], {}} {
		at := boxes.Loc{Off: 36, Len: 1}
		do(t, s, func() { want(t, "Put", place.Put(s, h, at), api.OK) })
		w.places[h], w.moved[spotTold(at)] = at, boxes.Loc{Off: 70}
		putEntry(t, s, forest.Moved, spotTold(at), "\x00\x00\x00\x46")
		wantRefused(t, s, api.ErrSpoilt, settleOf(t, s))
		wantPlaces(t, s, w)
	}
}

// A record that tells another stored hash, as its bytes are others, does not let that one have other data.
func TestSettleOfARecordOfAnotherHash(t *testing.T) {
	s, w := newStore(t, 4)
	hs := stored(t, s, w, "a", "b")
	moveBoth(t, s, w, hs[0])
	for i := range 32 {
		spoil(t, s, 0, i, hs[0][i]^hs[1][i])
	}
	wantRefused(t, s, api.ErrSpoilt, settleOf(t, s))
	wantPlaces(t, s, w)
	for _, h := range hs {
		want(t, "Data", dataOf(t, s, h)(), api.OK)
	}
}

// What is settled is told by the old record's hash alone: its data may be rotten, and the new record too.
func TestSettleOfWhatIsRotten(t *testing.T) {
	for old := range 2 {
		s, w := newStore(t, 4)
		h := stored(t, s, w, text(40), text(50))[0]
		moveBoth(t, s, w, h)
		l := w.lies(h)
		e := api.ErrSpoilt
		if old == 1 {
			l, e = w.places[h], api.OK
		}
		spoil(t, s, l.Box, l.Off+40, 1)
		want(t, "Data", dataOf(t, s, h)(), e)
		settleBoth(t, s, w)
		wantPlaces(t, s, w)
		want(t, "Data", dataOf(t, s, h)(), e)
	}
}

// A box whose records can't be told says so.
func TestSettleOfABoxWithoutRecords(t *testing.T) {
	s, w := newStore(t, 4)
	h := stored(t, s, w, text(1900), text(50))[0]
	moveBoth(t, s, w, h)
	spoil(t, s, 0, 33, 1)
	wantRefused(t, s, api.ErrSpoilt, settleOf(t, s))
	wantPlaces(t, s, w)
	want(t, "Data", dataOf(t, s, h)(), api.OK)
}
