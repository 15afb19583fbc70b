package bits_test

import (
	"bytes"
	"math/rand/v2"
	"testing"

	"armarium/api"
	"armarium/bits"
)

const (
	greatest = int(^uint(0) >> 1)
	lowest   = -greatest - 1
)

// told is a map as the chapter's words tell it: whether each page is used.
type told []bool

// page is the map's page.
func (w told) page() []byte {
	b := make([]byte, 512)
	for i, used := range w {
		if used {
			b[i/8] += 1 << (i % 8)
		}
	}
	return b
}

func (w told) used() int {
	n := 0
	for _, used := range w {
		if used {
			n++
		}
	}
	return n
}

func (w told) find() (int, bool) {
	for i, used := range w {
		if !used {
			return i, true
		}
	}
	return 0, false
}

// noPages are numbers that are no page's of a map of so many.
func noPages(n int) []int {
	l := []int{lowest, lowest + 1, -1 << 32, -1025, -1024, -65, -64, -63, -9, -8, -7, -2, -1}
	l = append(l, n, n+1, n+7, n+8, n+63, n+64, 1024, 1025, 1087, 1088, 2048, 4095, 4096)
	return append(l, 1<<31-1, 1<<31, 1<<32, 1<<32+1, greatest-1, greatest)
}

// edges are numbers of pages around those at which a byte, a word, or all of them end.
func edges() []int {
	return []int{1, 2, 3, 7, 8, 9, 15, 16, 17, 31, 32, 33, 63, 64, 65, 127, 128, 129, 500, 511, 512, 513, 959, 960, 961, 1016, 1017, 1022, 1023, 1024}
}

func newMap(t *testing.T, n int) bits.Map {
	t.Helper()
	m, e := bits.New(n)
	if e != api.OK {
		t.Fatalf("%d pages: error %d", n, e)
	}
	return m
}

func takeMap(t *testing.T, b []byte, n int) bits.Map {
	t.Helper()
	m, e := bits.Take(b, n)
	if e != api.OK {
		t.Fatalf("%d pages: % x: error %d", n, b, e)
	}
	return m
}

// setAll is a new map with those pages used that are told.
func setAll(t *testing.T, w told) bits.Map {
	t.Helper()
	m := newMap(t, len(w))
	for i, used := range w {
		m = m.Set(i, used)
	}
	return m
}

// someTold is a map in which each page is used as often as in so many of 256 maps.
func someTold(r *rand.Rand, n, often int) told {
	w := make(told, n)
	for i := range w {
		w[i] = r.IntN(256) < often
	}
	return w
}

// allTold are all maps of so many pages.
func allTold(n int) []told {
	var l []told
	for mask := range 1 << n {
		w := make(told, n)
		for i := range w {
			w[i] = mask>>i&1 == 1
		}
		l = append(l, w)
	}
	return l
}

// wantMap fails unless the map answers in all what is told.
func wantMap(t *testing.T, m bits.Map, w told) {
	t.Helper()
	if m.Len() != len(w) || m.Used() != w.used() {
		t.Fatalf("%v: %d pages, %d used", w, m.Len(), m.Used())
	}
	at, is := m.Find()
	if wantAt, wantIs := w.find(); at != wantAt || is != wantIs {
		t.Fatalf("%v: found %d, %v", w, at, is)
	}
	for i, used := range w {
		if m.Has(i) != used {
			t.Fatalf("%v: has %d: %v", w, i, m.Has(i))
		}
	}
	if !m.Has(-1) || !m.Has(len(w)) {
		t.Fatalf("%v: a number of no page is not used", w)
	}
	if b := m.Bytes(); !bytes.Equal(b, w.page()) {
		t.Fatalf("%v: the page is % x", w, b)
	}
}

// wantError fails unless that error, and a zero map, is what New or Take answered.
func wantError(t *testing.T, what string, m bits.Map, e, want api.Errno) {
	t.Helper()
	if e != want || m != (bits.Map{}) {
		t.Fatalf("%s: error %d; want %d; %d pages", what, e, want, m.Len())
	}
}
