package boxes_test

import (
	"math/rand/v2"
	"testing"

	"armarium/api"
	"armarium/boxes"
)

// P14.4

// wantNoRecord fails unless no record is at a place.
func wantNoRecord(t *testing.T, s *boxes.Store, l boxes.Loc, e api.Errno) {
	t.Helper()
	h, data, got := s.Read(l)
	if got != e || h != (api.Hash{}) || data != "" {
		t.Fatalf("%v: %v, %x.., %d bytes; want %v", l, got, h[:4], len(data), e)
	}
}

// A record is read at its own place alone: each other one, and each other length, is none's.
func TestReadOfAllPlaces(t *testing.T) {
	s, w := newStore(t, 4), make(told, 4)
	for _, n := range []int{0, 5, 5, 0, 300, 1000, 700, 2} {
		appended(t, s, w, text(n), false)
	}
	for i := range 4 {
		lens := map[int]int{}
		for _, r := range w[i].records {
			lens[r.At] = len(r.Data)
		}
		for off := -40; off <= 2100; off++ {
			for _, n := range []int{-1, 0, 2, 5, 300, 700, 1000, 2014, 65536, 65541} {
				if is, ok := lens[off]; ok && is == n {
					continue
				}
				wantNoRecord(t, s, boxes.Loc{Box: i, Off: off, Len: n}, api.ErrSpoilt)
			}
		}
		for _, off := range []int{lowest, greatest, -65536, 65536, 1 << 32} {
			for _, n := range []int{lowest, 0, greatest} {
				wantNoRecord(t, s, boxes.Loc{Box: i, Off: off, Len: n}, api.ErrSpoilt)
			}
		}
	}
	for _, i := range noBoxes(4) {
		wantNoRecord(t, s, boxes.Loc{Box: i}, api.ErrArg)
		wantNoRecord(t, s, boxes.Loc{Box: i, Off: -1, Len: -1}, api.ErrArg)
	}
	wantStore(t, s, w)
}

// A free box has no records, also if it had some.
func TestRecordsOfFreeBoxes(t *testing.T) {
	s, w := sealedStore(t, 4, 1)
	do(t, s, func() {
		want(t, "Live", s.Live(0, -w[0].live), w.lives(0, -w[0].live))
		want(t, "Release", s.Release(0), w.release(0))
	})
	for _, i := range []int{0, 2, 3} {
		if l, e := s.Records(i); len(l) != 0 || e != api.OK {
			t.Errorf("the box %d: %v, %d records", i, e, len(l))
		}
		wantNoRecord(t, s, boxes.Loc{Box: i}, api.ErrSpoilt)
		wantNoRecord(t, s, boxes.Loc{Box: i, Len: 1000}, api.ErrSpoilt)
	}
}

// spoil lets a byte of a box's room be another one.
func spoil(t *testing.T, s *boxes.Store, i, at int, by byte) {
	t.Helper()
	sector := s.Sector(i) + 1 + at/512
	b, e := diskOf(s).Read(sector)
	want(t, "Read", e, api.OK)
	b[at%512] ^= by
	want(t, "Write", diskOf(s).Write(sector, b), api.OK)
	want(t, "Flush", diskOf(s).Flush(), api.OK)
}

// Each byte of a box is another one: if that tells how long a record is, there are other records, or none.
func TestBytesThatAreOthers(t *testing.T) {
	s, w := newStore(t, 3), make(told, 3)
	appended(t, s, w, text(40), false)
	appended(t, s, w, text(60), false)
	first, second := boxes.Loc{Len: 40}, boxes.Loc{Off: 74, Len: 60}
	for at := range 168 {
		spoil(t, s, 0, at, 1)
		l, e := s.Records(0)
		inLength := at == 32 || at == 33 || at == 106 || at == 107
		if inLength {
			if want(t, "Records", e, api.ErrSpoilt); len(l) != 0 {
				t.Fatalf("%d records", len(l))
			}
			wantNoRecord(t, s, first, api.ErrSpoilt)
			wantNoRecord(t, s, second, api.ErrSpoilt)
		} else {
			want(t, "Records", e, api.OK)
			h, data, _ := s.Read(first)
			if is := recordTold(h, data) == w[0].bytes()[:74]; is != (at >= 74) {
				t.Fatalf("the byte %d: the first record is as it was: %v", at, is)
			}
		}
		spoil(t, s, 0, at, 1)
	}
	spoil(t, s, 0, 168, 1) // what is not used plays no part
	spoil(t, s, 0, 2047, 1)
	wantStore(t, s, w)
}

// Used bytes that end within a record are no records.
func TestUsedBytesThatAreOthers(t *testing.T) {
	s, w := newStore(t, 3), make(told, 3)
	appended(t, s, w, text(40), false)
	appended(t, s, w, text(60), false)
	for used := range 169 {
		for kind := 1; kind <= 2; kind++ {
			putEntry(t, s, 0, number(1, kind)+number(2, used)+number(2, 0))
			l, e := s.Records(0)
			n, ok := map[int]int{0: 0, 74: 1, 168: 2}[used]
			if ok != (e == api.OK) || !ok && e != api.ErrSpoilt || len(l) != n {
				t.Fatalf("%d used bytes: %v, %d records", used, e, len(l))
			}
			if n < 2 {
				wantNoRecord(t, s, boxes.Loc{Off: 74, Len: 60}, api.ErrSpoilt)
			}
		}
	}
}

// The records of one box are not another one's.
func TestReadOfAnyRecords(t *testing.T) {
	r := rand.New(rand.NewPCG(14, 4))
	s, w := newStore(t, 40), make(told, 40)
	places := map[boxes.Loc]string{}
	for {
		h, data := someHash(r), someText(r, r.IntN(700))
		var l boxes.Loc
		var e api.Errno
		do(t, s, func() { l, e = appendBoth(t, s, w, h, data, false) })
		if e == api.ErrFull {
			break
		}
		if places[l] != "" {
			t.Fatalf("two records at %v", l)
		}
		places[l] = recordTold(h, data)
	}
	if len(places) < 150 {
		t.Errorf("%d records", len(places))
	}
	for range 2 {
		for l, told := range places {
			if h, data, e := s.Read(l); e != api.OK || recordTold(h, data) != told {
				t.Fatalf("%v: %v", l, e)
			}
		}
		wantStore(t, s, w)
		s = mounted(t, diskOf(s))
	}
}
