package bits_test

import (
	"bytes"
	"math/rand/v2"
	"strconv"
	"testing"

	"armarium/api"
	"armarium/bits"
)

// wrongCounts are numbers of pages of no map.
func wrongCounts() []int {
	return []int{lowest, lowest + 1, -1 << 32, -1024, -64, -1, 0, 1025, 1026, 1088, 4096, 1<<16 + 3, 1<<32 + 3, greatest - 1, greatest}
}

// P7.1

func TestNewOfEachNumberOfPages(t *testing.T) {
	for n := 1; n <= 1024; n++ {
		wantMap(t, newMap(t, n), make(told, n))
	}
}

func TestNewOfWrongNumbers(t *testing.T) {
	for _, n := range wrongCounts() {
		m, e := bits.New(n)
		wantError(t, strconv.Itoa(n), m, e, api.ErrArg)
	}
}

func TestPageByteByByte(t *testing.T) {
	m := newMap(t, 1024)
	for _, i := range []int{0, 2, 8, 15, 63, 64, 71, 1016, 1023} {
		m = m.Set(i, true)
	}
	want := make([]byte, 512)
	want[0], want[1], want[7], want[8], want[127] = 5, 129, 128, 129, 129
	if b := m.Bytes(); !bytes.Equal(b, want) {
		t.Fatalf("the page is % x", b)
	}
	if x := takeMap(t, want, 1024); x != m {
		t.Error("the page is another map's")
	}
}

func TestPageOfEachSinglePage(t *testing.T) {
	for i := range 1024 {
		w := make(told, 1024)
		w[i] = true
		wantMap(t, newMap(t, 1024).Set(i, true), w)
		wantMap(t, takeMap(t, w.page(), 1024), w)
	}
}

// All bits of a page, alone: those of pages are taken, the others are of no page.
func TestTakeOfEachSingleBit(t *testing.T) {
	for _, n := range edges() {
		for i := range 512 * 8 {
			b := make([]byte, 512)
			b[i/8] = 1 << (i % 8)
			m, e := bits.Take(b, n)
			if i >= n {
				wantError(t, strconv.Itoa(n)+" pages, the bit "+strconv.Itoa(i), m, e, api.ErrForm)
			} else if e != api.OK || !m.Has(i) || m.Used() != 1 || m.Len() != n {
				t.Fatalf("%d pages, the bit %d: error %d, %d used of %d", n, i, e, m.Used(), m.Len())
			}
		}
	}
}

// Bits of pages do not hide one of no page, wherever that stands.
func TestTakeOfABitOfNoPageBesideOthers(t *testing.T) {
	r := rand.New(rand.NewPCG(7, 1))
	for _, n := range edges() {
		for range 200 {
			w := someTold(r, n, r.IntN(257))
			wantMap(t, takeMap(t, w.page(), n), w)
			b := w.page()
			i := n + r.IntN(512*8-n)
			b[i/8] |= 1 << (i % 8)
			m, e := bits.Take(b, n)
			wantError(t, strconv.Itoa(n)+" pages, the bit "+strconv.Itoa(i)+" too", m, e, api.ErrForm)
		}
	}
}

func TestTakeOfAFullPage(t *testing.T) {
	for n := 1; n <= 1024; n++ {
		w := make(told, n)
		for i := range w {
			w[i] = true
		}
		wantMap(t, takeMap(t, w.page(), n), w)
		if n > 1 {
			m, e := bits.Take(w.page(), n-1)
			wantError(t, strconv.Itoa(n-1)+" pages, one used too many", m, e, api.ErrForm)
		}
	}
}

func TestTakeOfAnotherNumberOfBytes(t *testing.T) {
	m, e := bits.Take(nil, 3)
	wantError(t, "nil", m, e, api.ErrForm)
	whole := append(told{true, false, true}.page(), make([]byte, 1<<16)...)
	for _, n := range []int{0, 1, 8, 64, 127, 128, 129, 256, 510, 511, 513, 514, 1024, 4096, 1 << 16} {
		m, e := bits.Take(whole[:n], 3)
		wantError(t, strconv.Itoa(n)+" bytes", m, e, api.ErrForm)
	}
	wantMap(t, takeMap(t, whole[:512], 3), told{true, false, true})
}

// The number of pages is asked ahead of the bytes.
func TestTakeOfWrongNumbers(t *testing.T) {
	full := bytes.Repeat([]byte{255}, 512)
	for _, n := range wrongCounts() {
		for _, b := range [][]byte{nil, {}, {1}, make([]byte, 511), make([]byte, 512), make([]byte, 513), full} {
			m, e := bits.Take(b, n)
			wantError(t, strconv.Itoa(n)+" pages of "+strconv.Itoa(len(b))+" bytes", m, e, api.ErrArg)
		}
	}
}

func TestTakeKeepsAndChangesNothing(t *testing.T) {
	w := told{true, false, true, true, false, false, false, false, true}
	b := w.page()
	m := takeMap(t, b, len(w))
	if !bytes.Equal(b, w.page()) {
		t.Fatalf("the bytes became % x", b)
	}
	clear(b)
	wantMap(t, m, w)
	b = bytes.Repeat([]byte{255}, 512)
	bits.Take(b, 3)
	if !bytes.Equal(b, bytes.Repeat([]byte{255}, 512)) {
		t.Error("bytes that are no page were changed")
	}
}

// What lies behind the page in the same memory is the caller's.
func TestTakeLooksAtThePageAlone(t *testing.T) {
	b := append(told{true, false}.page(), "behind it"...)
	wantMap(t, takeMap(t, b[:512], 2), told{true, false})
	if string(b[512:]) != "behind it" {
		t.Errorf("behind it stands %q", b[512:])
	}
}

func TestBytesAreNewMemory(t *testing.T) {
	m := newMap(t, 3).Set(1, true)
	b, other := m.Bytes(), m.Bytes()
	for i := range b[:cap(b)] {
		b[:cap(b)][i] = 255
	}
	wantMap(t, m, told{false, true, false})
	if !bytes.Equal(other, told{false, true}.page()) {
		t.Errorf("the other answer became % x", other)
	}
}

func TestBytesOfAZeroMap(t *testing.T) {
	if b := (bits.Map{}).Bytes(); !bytes.Equal(b, make([]byte, 512)) {
		t.Errorf("the page is % x", b)
	}
}
