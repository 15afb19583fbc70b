package place_test

import (
	"math/rand/v2"
	"slices"
	"testing"

	"armarium/api"
	"armarium/boxes"
	"armarium/forest"
	"armarium/place"
)

// P15.1

// anyPlaces are places of all kinds of numbers that go into 2 bytes.
func anyPlaces() []boxes.Loc {
	l := []boxes.Loc{{}, {Box: 1}, {Off: 1}, {Len: 1}, {Box: 1, Off: 2, Len: 3}}
	for _, n := range []int{255, 256, 257, 2047, 32768, 65535} {
		l = append(l, boxes.Loc{Box: n}, boxes.Loc{Off: n}, boxes.Loc{Len: n}, boxes.Loc{Box: n, Off: n, Len: n})
	}
	return l
}

// A place is told as it was put, whether anything lies there or not.
func TestGetOfAnyPlaces(t *testing.T) {
	s, w := newStore(t, 3)
	r := rand.New(rand.NewPCG(15, 1))
	for _, l := range anyPlaces() {
		h := hashOf(someText(r, 20))
		do(t, s, func() { want(t, "Put", place.Put(s, h, l), api.OK) })
		w.places[h] = l
		wantPlaces(t, s, w)
	}
	wantPlaces(t, mounted(t, diskOf(s)), w)
}

// Of a place that Moved has, box and offset are Moved's, and the length is the place's own.
func TestGetOfAnyMovedPlaces(t *testing.T) {
	s, w := newStore(t, 3)
	r := rand.New(rand.NewPCG(15, 2))
	for i, l := range anyPlaces() {
		h, to := hashOf(someText(r, 20)), boxes.Loc{Box: 65535 - l.Off, Off: l.Box, Len: 7}
		if i%3 == 0 {
			l.Len = 300
		}
		do(t, s, func() {
			want(t, "Put", place.Put(s, h, l), api.OK)
			want(t, "Put of Moved", s.Forest().Put(forest.Moved, spotTold(l), spotTold(to)), api.OK)
		})
		w.places[h], w.moved[spotTold(l)] = l, to
		wantPlaces(t, s, w)
	}
	wantPlaces(t, mounted(t, diskOf(s)), w)
}

// Records of all lengths have their data, moved or not.
func TestDataOfAllLengths(t *testing.T) {
	for n := 0; n <= 2014; n += 1 + n/3 {
		for _, n := range []int{n, 2014 - n} {
			s, w := newStore(t, 4)
			h := stored(t, s, w, text(n), "another one")[0]
			for range 2 {
				wantStore(t, s, w)
				if data, e := place.Data(s, h); data != text(n) || e != api.OK {
					t.Fatalf("%d bytes, %v; want %d", len(data), e, n)
				}
				moveBoth(t, s, w, h)
			}
		}
	}
}

func TestEachStops(t *testing.T) {
	s, w := newStore(t, 9)
	for i := range 60 {
		stored(t, s, w, text(i))
	}
	for _, h := range w.rising()[:20] {
		moveBoth(t, s, w, h)
	}
	wantStore(t, s, w) // Each tells where they lay
	for stop := range 62 {
		var all []api.Hash
		e := place.Each(s, func(h api.Hash, l boxes.Loc) bool {
			all = append(all, h)
			return len(all) < stop
		})
		if n := min(max(stop, 1), 60); e != api.OK || !slices.Equal(all, w.rising()[:n]) {
			t.Fatalf("%v: %d are told; want %d", e, len(all), n)
		}
	}
}

func TestNil(t *testing.T) {
	for _, h := range []api.Hash{{}, hashOf("ab")} {
		for i, call := range []func() api.Errno{getOf(t, nil, h), dataOf(t, nil, h), dropOf(nil, h), moveOf(nil, h), putOf(nil, h, boxes.Loc{}), putOf(nil, h, boxes.Loc{Box: -1, Off: greatest}), settleOf(t, nil), eachOf(nil)} {
			if e := call(); e != api.ErrNil {
				t.Errorf("the call %d: %v", i, e)
			}
		}
	}
	want(t, "Each of nothing to tell", place.Each(nil, nil), api.ErrNil)
	s, w := newStore(t, 3)
	want(t, "Each of nothing to tell", place.Each(s, nil), api.ErrNil)
	stored(t, s, w, "ab")
	want(t, "Each of nothing to tell", place.Each(s, nil), api.ErrNil)
}

// A hash that has no place is ErrNone, however much it is like one that has, within a change and without.
func TestNoPlace(t *testing.T) {
	s, w := newStore(t, 3)
	none := func(h api.Hash) {
		t.Helper()
		calls := []func() api.Errno{getOf(t, s, h), dataOf(t, s, h), dropOf(s, h), moveOf(s, h)}
		wantRefused(t, s, api.ErrNone, calls...)
		for i, call := range calls {
			if e := call(); e != api.ErrNone {
				t.Fatalf("the call %d: %v", i, e)
			}
		}
	}
	none(hashOf("ab"))
	none(api.Hash{})
	h := stored(t, s, w, "ab", "abc")[0]
	for bit := range 256 {
		near := h
		near[bit/8] ^= 1 << (bit % 8)
		none(near)
	}
	dropBoth(t, s, w, h)
	none(h)
	wantStore(t, s, w)
}

// A record of another hash, or of none, is none's.
func TestDataOfOtherRecords(t *testing.T) {
	s, w := newStore(t, 6)
	hs := stored(t, s, w, text(40), text(50), text(40)+"!", text(2000))
	l := w.places[hs[1]]
	wrong := []boxes.Loc{
		w.places[hs[0]], w.places[hs[2]], w.places[hs[3]],
		{Box: l.Box, Off: l.Off, Len: l.Len - 1}, {Box: l.Box, Off: l.Off, Len: l.Len + 1}, {Box: l.Box, Off: l.Off, Len: 0},
		{Box: l.Box, Off: l.Off - 1, Len: l.Len}, {Box: l.Box, Off: l.Off + 1, Len: l.Len}, {Box: l.Box, Off: 2048, Len: l.Len}, {Box: l.Box, Off: 65535, Len: 65535},
		{Box: 1, Off: l.Off, Len: l.Len}, {Box: 2, Off: l.Off, Len: l.Len}, {Box: 5, Off: l.Off, Len: l.Len}, {Box: 5},
	}
	for _, at := range wrong {
		do(t, s, func() { want(t, "Put", place.Put(s, hs[1], at), api.OK) })
		w.places[hs[1]] = at
		wantRefused(t, s, api.ErrSpoilt, dataOf(t, s, hs[1]), moveOf(s, hs[1]))
		wantPlaces(t, s, w)
	}
	do(t, s, func() { want(t, "Put", place.Put(s, hs[1], l), api.OK) })
	w.places[hs[1]] = l
	wantStore(t, s, w)
}

// A record tells that hash, but its data have another one.
func TestDataOfAnotherHash(t *testing.T) {
	s, _ := newStore(t, 6)
	h := hashOf("ab")
	for _, data := range []string{"", "a", "aB", "abc", text(2014)} {
		do(t, s, func() {
			l, e := s.Append(h, data, true)
			want(t, "Append", e, api.OK)
			want(t, "Put", place.Put(s, h, l), api.OK)
		})
		wantRefused(t, s, api.ErrSpoilt, dataOf(t, s, h), moveOf(s, h))
		want(t, "Get", getOf(t, s, h)(), api.OK)
	}
}

// Each byte of a record is another one: then its hash has no data any more; the other one has, unless nothing tells where it begins.
func TestBytesThatAreOthers(t *testing.T) {
	s, w := newStore(t, 4)
	hs := stored(t, s, w, text(40), text(60))
	for at := range 168 {
		spoil(t, s, 0, at, 1<<(at%8))
		inLength := at == 32 || at == 33 || at == 106 || at == 107
		for i, h := range hs {
			if i == at/74 || inLength || i == 1 && at >= 74 {
				wantRefused(t, s, api.ErrSpoilt, dataOf(t, s, h), moveOf(s, h))
			} else {
				want(t, "Data", dataOf(t, s, h)(), api.OK)
			}
		}
		wantPlaces(t, s, w)
		spoil(t, s, 0, at, 1<<(at%8))
	}
	wantStore(t, s, w)
}

// What boxes say of a place in no box is answered as it is.
func TestPlacesInNoBox(t *testing.T) {
	s, w := newStore(t, 3)
	h := stored(t, s, w, "ab")[0]
	for _, i := range []int{3, 4, 200, 256, 65535} {
		do(t, s, func() { want(t, "Put", place.Put(s, h, boxes.Loc{Box: i, Len: 2}), api.OK) })
		wantRefused(t, s, api.ErrArg, dataOf(t, s, h), dropOf(s, h), moveOf(s, h))
		want(t, "Get", getOf(t, s, h)(), api.OK)
	}
}

// What the disk says, all say, for ever.
func TestWithoutPower(t *testing.T) {
	s, w := newStore(t, 4)
	hs := stored(t, s, w, "ab", "abc")
	moveBoth(t, s, w, hs[0])
	diskOf(s).Crash("")
	for range 2 {
		for _, h := range append(hs, api.Hash{}) {
			for i, call := range []func() api.Errno{getOf(t, s, h), dataOf(t, s, h), dropOf(s, h), moveOf(s, h), settleOf(t, s), eachOf(s)} {
				if e := call(); e != api.ErrDead {
					t.Fatalf("the call %d: %v", i, e)
				}
				e := s.Forest().Do(call)
				want(t, "Do", e, api.ErrDead)
			}
			want(t, "Do of Put", s.Forest().Do(putOf(s, h, boxes.Loc{})), api.ErrDead)
		}
		diskOf(s).Start()
	}
	wantStore(t, mounted(t, diskOf(s)), w)
}

// P15.2

// A hash has the place that was put last.
func TestPutOnceMore(t *testing.T) {
	s, w := newStore(t, 4)
	h := hashOf("ab")
	for range 3 {
		do(t, s, func() {
			l, e := s.Append(h, "ab", false)
			want(t, "Append", e, api.OK)
			w.append(h, "ab", false)
			want(t, "Put", place.Put(s, h, boxes.Loc{Box: 2, Off: 1, Len: 1}), api.OK)
			want(t, "Put", place.Put(s, h, l), api.OK)
			w.places[h] = l
			wantStore(t, s, w) // also within the change
		})
		wantStore(t, s, w)
	}
}

// Numbers that do not go into 2 bytes are no place's.
func TestPutOfNumbersThatMayNotBe(t *testing.T) {
	s, w := newStore(t, 3)
	h := stored(t, s, w, "ab")[0]
	for _, n := range []int{-1, lowest, 65536, 65537, 1 << 32, greatest} {
		for _, l := range []boxes.Loc{{Box: n}, {Off: n}, {Len: n}, {Box: n, Off: n, Len: n}} {
			wantRefused(t, s, api.ErrArg, putOf(s, h, l), putOf(s, hashOf("none"), l))
		}
	}
	wantStore(t, s, w)
}

func TestDrop(t *testing.T) {
	s, w := newStore(t, 6)
	hs := stored(t, s, w, "", "a", text(2014), text(300), text(400))
	moveBoth(t, s, w, hs[0])
	moveBoth(t, s, w, hs[2])
	wantStore(t, s, w)
	for _, i := range []int{2, 3, 0, 4, 1} {
		dropBoth(t, s, w, hs[i])
		wantStore(t, s, w)
	}
	for _, b := range w.boxes {
		if b.live != 0 {
			t.Errorf("%d bytes are live", b.live)
		}
	}
	stored(t, s, w, "", "a") // and once more
	wantStore(t, s, w)
}

// What is rotten is dropped as all else is: its record is not asked.
func TestDropOfWhatIsRotten(t *testing.T) {
	for _, at := range []int{0, 32, 33, 34, 50} {
		for moved := range 2 {
			s, w := newStore(t, 6)
			hs := stored(t, s, w, text(40), text(2000))
			if moved == 1 {
				moveBoth(t, s, w, hs[0])
			}
			l := w.lies(hs[0])
			spoil(t, s, l.Box, l.Off+at, 1)
			want(t, "Data", dataOf(t, s, hs[0])(), api.ErrSpoilt)
			dropBoth(t, s, w, hs[0])
			wantPlaces(t, s, w)
		}
	}
}

// Where fewer bytes are live than the record has, boxes refuse it, and nothing is dropped.
func TestDropOfTooMuch(t *testing.T) {
	s, w := newStore(t, 4)
	h := stored(t, s, w, text(40))[0]
	for range 2 {
		l := w.lies(h)
		b := &w.boxes[l.Box]
		was := *b
		for _, live := range []int{0, 1, 73} {
			b.live = live
			putEntry(t, s, forest.Boxes, number(2, l.Box), number(1, int(b.kind))+number(2, b.used)+number(2, live))
			wantRefused(t, s, api.ErrArg, dropOf(s, h))
			wantStore(t, s, w)
		}
		*b = was
		putEntry(t, s, forest.Boxes, number(2, l.Box), number(1, int(b.kind))+number(2, b.used)+number(2, b.live))
		moveBoth(t, s, w, h)
	}
	free := hashOf("in a free box")
	do(t, s, func() { want(t, "Put", place.Put(s, free, boxes.Loc{Box: 3, Len: 2}), api.OK) })
	w.places[free] = boxes.Loc{Box: 3, Len: 2}
	wantRefused(t, s, api.ErrArg, dropOf(s, free))
	wantPlaces(t, s, w)
}

// Outside of a change nothing changes.
func TestOutsideOfAChange(t *testing.T) {
	s, w := newStore(t, 5)
	hs := stored(t, s, w, "ab", "abc", text(2000))
	moveBoth(t, s, w, hs[0])
	wantUntouched(t, "outside of a change", diskOf(s), func() {
		for _, call := range []func() api.Errno{putOf(s, hs[0], boxes.Loc{}), putOf(s, api.Hash{}, w.places[hs[1]]), dropOf(s, hs[0]), dropOf(s, hs[1]), moveOf(s, hs[0]), moveOf(s, hs[1]), settleOf(t, s)} {
			want(t, "outside of a change", call(), api.ErrArg)
		}
		wantStore(t, s, w)
	})
}
