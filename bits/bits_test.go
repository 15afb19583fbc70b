package bits_test

import (
	"bytes"
	"math/rand/v2"
	"testing"

	"armarium/bits"
)

// P7.2

func TestExampleOfTheChapter(t *testing.T) {
	m := newMap(t, 3).Set(0, true).Set(2, true)
	if at, is := m.Find(); at != 1 || !is {
		t.Errorf("found %d, %v", at, is)
	}
	if b := m.Bytes(); b[0] != 5 {
		t.Errorf("the first byte is %d", b[0])
	}
}

func TestHasOfNoPage(t *testing.T) {
	for _, n := range edges() {
		for _, m := range []bits.Map{newMap(t, n), setAll(t, someTold(rand.New(rand.NewPCG(7, 2)), n, 128))} {
			for _, i := range noPages(n) {
				if !m.Has(i) {
					t.Errorf("%d pages: has %d: false", n, i)
				}
			}
		}
	}
}

func TestSetOfNoPage(t *testing.T) {
	r := rand.New(rand.NewPCG(7, 3))
	for _, n := range edges() {
		for _, often := range []int{0, 128, 256} {
			w := someTold(r, n, often)
			m := setAll(t, w)
			for _, i := range noPages(n) {
				for _, used := range []bool{false, true} {
					if m.Set(i, used) != m {
						t.Errorf("%d pages: Set(%d, %v) is another map", n, i, used)
					}
				}
			}
			wantMap(t, m, w)
		}
	}
}

func TestSetOfEachPage(t *testing.T) {
	r := rand.New(rand.NewPCG(7, 4))
	for _, n := range edges() {
		w := someTold(r, n, 128)
		m := setAll(t, w)
		for i := range n {
			was := w[i]
			for _, used := range []bool{!was, !was, was, was} {
				w[i] = used
				m = m.Set(i, used)
				wantMap(t, m, w)
			}
		}
	}
}

// A map is told by its value: one that was set leaves the map it came of as it was.
func TestSetLeavesTheMapItself(t *testing.T) {
	m := newMap(t, 130).Set(5, true)
	kept := m
	m.Set(5, false)
	m.Set(6, true)
	m.Set(129, true)
	if m != kept || m.Used() != 1 || !m.Has(5) {
		t.Errorf("%d are used; has 5: %v", m.Used(), m.Has(5))
	}
	left, right := m.Set(64, true), m.Set(65, true)
	if left.Has(65) || right.Has(64) || !left.Has(64) || !right.Has(65) {
		t.Error("two maps that came of one share pages")
	}
}

func TestFindAsPagesAreUsedOneByOne(t *testing.T) {
	for _, n := range edges() {
		m := newMap(t, n)
		for i := range n {
			if at, is := m.Find(); at != i || !is {
				t.Fatalf("%d pages, %d used: found %d, %v", n, i, at, is)
			}
			m = m.Set(i, true)
		}
		if at, is := m.Find(); at != 0 || is || m.Used() != n {
			t.Fatalf("%d pages, all used: found %d, %v", n, at, is)
		}
	}
}

func TestFindOfTheOnlyPageThatIsNotUsed(t *testing.T) {
	for _, n := range edges() {
		full := newMap(t, n)
		for i := range n {
			full = full.Set(i, true)
		}
		for i := range n {
			if at, is := full.Set(i, false).Find(); at != i || !is {
				t.Fatalf("%d pages, %d is not used: found %d, %v", n, i, at, is)
			}
		}
	}
}

func TestZeroMapHasNone(t *testing.T) {
	var m bits.Map
	if at, is := m.Find(); at != 0 || is || m.Used() != 0 || m.Len() != 0 {
		t.Errorf("found %d, %v; %d used of %d", at, is, m.Used(), m.Len())
	}
	for _, i := range append(noPages(0), 0, 1, 2, 63, 64, 1023) {
		if !m.Has(i) || m.Set(i, true) != m || m.Set(i, false) != m {
			t.Errorf("%d: has it: %v", i, m.Has(i))
		}
	}
}

// P7.3

func TestAllSmallMaps(t *testing.T) {
	for n := 1; n <= 11; n++ {
		for _, w := range allTold(n) {
			m := setAll(t, w)
			wantMap(t, m, w)
			if takeMap(t, w.page(), n) != m {
				t.Fatalf("%v: the page is another map's", w)
			}
		}
	}
}

func TestPagesAndMapsAnswerEachOther(t *testing.T) {
	r := rand.New(rand.NewPCG(7, 5))
	for n := 1; n <= 1024; n++ {
		for _, often := range []int{1, 128, 255, 256} {
			w := someTold(r, n, often)
			m := takeMap(t, w.page(), n)
			wantMap(t, m, w)
			if m != setAll(t, w) || takeMap(t, m.Bytes(), n) != m {
				t.Fatalf("%v: the page is another map's", w)
			}
		}
	}
}

// Maps are equal if they say the same of as many pages, however they came to be.
func TestMapsAreToldByTheirValue(t *testing.T) {
	m := newMap(t, 70)
	back := m
	for i := range 70 {
		back = back.Set(i, true)
	}
	for i := range 70 {
		back = back.Set(69-i, false)
	}
	if back != m {
		t.Error("a map whose pages were used and are no more is another one")
	}
	if newMap(t, 71) == m || m.Set(69, true) == m {
		t.Error("maps that say otherwise are equal")
	}
	if !bytes.Equal(newMap(t, 71).Bytes(), m.Bytes()) {
		t.Error("the pages differ")
	}
}

func TestSomeActs(t *testing.T) {
	r := rand.New(rand.NewPCG(7, 6))
	for range 60 {
		n := 1 + r.IntN(1024)
		w := someTold(r, n, 256*r.IntN(2))
		m := setAll(t, w)
		for range 200 {
			i, used := r.IntN(n), r.IntN(2) == 0
			if at, is := m.Find(); is && r.IntN(3) == 0 {
				i, used = at, true
			}
			w[i] = used
			m = m.Set(i, used)
			wantMap(t, m, w)
			if r.IntN(10) == 0 {
				m = takeMap(t, m.Bytes(), n)
			}
		}
	}
}

func TestFindIsNeverUsedAndAllBelowAre(t *testing.T) {
	r := rand.New(rand.NewPCG(7, 7))
	for range 3000 {
		n := 1 + r.IntN(1024)
		m := setAll(t, someTold(r, n, 240+r.IntN(17)))
		at, is := m.Find()
		if !is {
			at = n
		}
		if is && m.Has(at) {
			t.Fatalf("%d pages: found %d, which is used", n, at)
		}
		for i := range at {
			if !m.Has(i) {
				t.Fatalf("%d pages: found %d, but %d is not used", n, at, i)
			}
		}
	}
}
