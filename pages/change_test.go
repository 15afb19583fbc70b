package pages_test

import (
	"fmt"
	"math/rand/v2"
	"testing"

	"armarium/api"
	"armarium/pages"
)

// P8.3

func TestAChangeIsWhatPagesAreNow(t *testing.T) {
	d, s, w := made(t, 96, 64)
	acts := d.Acts()
	for _, i := range []int{1, 63, 7} {
		putBoth(t, s, w, i, full(fmt.Sprint(i)))
		wantStore(t, s, w)
	}
	putBoth(t, s, w, 7, full("other"))
	wantStore(t, s, w)
	if s.Changed() != 3 || s.Used() != 1 {
		t.Errorf("%d changed, %d used", s.Changed(), s.Used())
	}
	for want := 1; want <= 3; want++ {
		if i := allocBoth(t, s, w); i != want {
			t.Errorf("the page %d", i)
		}
		wantStore(t, s, w)
	}
	freeBoth(t, s, w, 2)
	wantStore(t, s, w)
	if i := allocBoth(t, s, w); i != 2 {
		t.Errorf("the page %d", i)
	}
	wantStore(t, s, w)
	if d.Acts() != acts {
		t.Errorf("%d acts", d.Acts()-acts)
	}
	wantOpened(t, d, w)
}

// A page of the change is one also where it is as it was.
func TestChanged(t *testing.T) {
	_, s, w := made(t, 96, 64)
	putBoth(t, s, w, 9, zeros(512))
	wantStore(t, s, w)
	if s.Changed() != 1 {
		t.Errorf("%d changed", s.Changed())
	}
	allocBoth(t, s, w)
	if s.Changed() != 3 {
		t.Errorf("%d changed behind Alloc", s.Changed())
	}
	freeBoth(t, s, w, 1)
	wantStore(t, s, w)
	if s.Changed() != 3 || s.Used() != 1 {
		t.Errorf("%d changed, %d used behind Free", s.Changed(), s.Used())
	}
	commitBoth(t, s, w)
	wantStore(t, s, w)
	if s.Changed() != 0 {
		t.Errorf("%d changed behind Commit", s.Changed())
	}
}

// The page 0 is a page of the change behind Free alone, too.
func TestFreeChangesThePageZero(t *testing.T) {
	_, s, w := made(t, 96, 64)
	allocBoth(t, s, w)
	allocBoth(t, s, w)
	putBoth(t, s, w, 1, full("kept"))
	commitBoth(t, s, w)
	freeBoth(t, s, w, 1)
	wantStore(t, s, w)
	if s.Changed() != 1 || s.Used() != 2 || pageOf(t, s, 1) != full("kept") {
		t.Errorf("%d changed, %d used", s.Changed(), s.Used())
	}
	want(t, "Free again", s.Free(1), api.ErrArg)
	wantStore(t, s, w)
}

func TestAllocOfAll(t *testing.T) {
	for _, n := range []int{64, 65, 127, 512, 1024} {
		_, s, w := made(t, 96, n)
		for i := 1; i < n; i++ {
			if at, e := s.Alloc(); at != i || e != api.OK {
				t.Fatalf("%d of %d: %d, %v", i, n, at, e)
			}
			w.alloc()
		}
		for range 2 {
			if at, e := s.Alloc(); at != 0 || e != api.ErrFull {
				t.Fatalf("%d of %d: %d, %v", n, n, at, e)
			}
			wantStore(t, s, w)
		}
		for _, i := range []int{n - 1, 5, 3, n / 2} {
			freeBoth(t, s, w, i)
		}
		for _, i := range []int{3, 5, n / 2, n - 1} {
			if at := allocBoth(t, s, w); at != i {
				t.Fatalf("%d; want %d", at, i)
			}
		}
		allocBoth(t, s, w)
		wantStore(t, s, w)
	}
}

// A page that comes by Alloc is bytes 0, whatever it was in the change, or was committed as.
func TestAllocIsBytesZero(t *testing.T) {
	_, s, w := made(t, 96, 64)
	putBoth(t, s, w, 1, full("of the change"))
	putBoth(t, s, w, 2, full("committed"))
	allocBoth(t, s, w)
	wantStore(t, s, w)
	commitBoth(t, s, w)
	if allocBoth(t, s, w) != 2 || pageOf(t, s, 2) != zeros(512) {
		t.Errorf("the page is %.20q", pageOf(t, s, 2))
	}
	wantStore(t, s, w)
	s.Abort()
	w.abort()
	if pageOf(t, s, 2) != full("committed") {
		t.Errorf("the page is %.20q", pageOf(t, s, 2))
	}
	wantStore(t, s, w)
}

func TestPutAndPageShareNothing(t *testing.T) {
	_, s, w := made(t, 96, 64)
	b := []byte(full("a"))
	want(t, "Put", s.Put(1, b), api.OK)
	w.put(1, full("a"))
	clear(b)
	wantStore(t, s, w)
	for range 3 { // a page of the change, one that is late, one that lies on its sector
		for i := range 64 {
			b, _ := s.Page(i)
			b[0] ^= 0xff
			_ = append(b, 1)
		}
		wantStore(t, s, w)
		if s.Changed() > 0 {
			commitBoth(t, s, w)
			continue
		}
		want(t, "Trim", s.Trim(), api.OK)
	}
	wantStore(t, s, w)
}

// noPages are numbers that are no page's of a store of so many.
func noPages(n int) []int {
	return []int{lowest, lowest + 1, -1 << 32, -65536, -n, -1, n, n + 1, 1024, 2 * n, 65536, 65537, 1 << 32, 1<<32 + 1, greatest - 1, greatest}
}

// wantWrong fails unless all calls with wrong things answer ErrArg, and leave the store as it was.
func wantWrong(t *testing.T, s *pages.Store, n int) {
	t.Helper()
	good := []byte(full("good"))
	for _, i := range noPages(n) {
		b, e := s.Page(i)
		want(t, fmt.Sprint("Page ", i), e, api.ErrArg)
		if b != nil {
			t.Fatalf("Page %d: % x", i, b)
		}
		want(t, fmt.Sprint("Put ", i), s.Put(i, good), api.ErrArg)
		want(t, fmt.Sprint("Put of nothing ", i), s.Put(i, nil), api.ErrArg)
		want(t, fmt.Sprint("Free ", i), s.Free(i), api.ErrArg)
	}
	for _, length := range []int{0, 1, 2, 511, 513, 514, 1024, 1 << 16} {
		want(t, fmt.Sprint("Put of ", length), s.Put(1, make([]byte, length)), api.ErrArg)
	}
	want(t, "Put of none", s.Put(1, nil), api.ErrArg)
	want(t, "Put of the page 0", s.Put(0, good), api.ErrArg)
	want(t, "Free of the page 0", s.Free(0), api.ErrArg)
	want(t, "Free of a page that is not used", s.Free(n-1), api.ErrArg)
}

func TestWrongThings(t *testing.T) {
	for _, n := range []int{64, 100, 1023} {
		d, s, w := made(t, 96, n)
		wantWrong(t, s, n)
		wantStore(t, s, w)
		allocBoth(t, s, w)
		putBoth(t, s, w, 1, full("a"))
		putBoth(t, s, w, 5, full("b"))
		wantWrong(t, s, n)
		wantStore(t, s, w)
		commitBoth(t, s, w)
		wantWrong(t, s, n)
		wantStore(t, s, w)
		d.Crash("")
		wantWrong(t, s, n)
	}
}

// wantDead fails unless all calls answer that, and touch nothing.
func wantDead(t *testing.T, s *pages.Store) {
	t.Helper()
	wantUntouched(t, "a dead store", s.Disk(), func() {
		for _, i := range []int{0, 1, 2, 63} {
			b, e := s.Page(i)
			want(t, fmt.Sprint("Page ", i), e, api.ErrDead)
			if b != nil {
				t.Fatalf("Page %d: % x", i, b)
			}
		}
		want(t, "Put", s.Put(1, []byte(full("x"))), api.ErrDead)
		i, e := s.Alloc()
		want(t, "Alloc", e, api.ErrDead)
		if i != 0 {
			t.Fatalf("Alloc: %d", i)
		}
		want(t, "Free", s.Free(1), api.ErrDead)
		want(t, "Commit", s.Commit(), api.ErrDead)
		want(t, "Trim", s.Trim(), api.ErrDead)
		want(t, "Put of no page", s.Put(64, []byte(full("x"))), api.ErrArg)
		want(t, "Free of the page 0", s.Free(0), api.ErrArg)
	})
}

// Once the disk said ErrDead, a store says so for ever, whether there is power again or not, and whatever it was asked first.
func TestDeadForEver(t *testing.T) {
	firsts := map[string]func(s *pages.Store) api.Errno{
		"Page":          func(s *pages.Store) api.Errno { _, e := s.Page(3); return e },
		"a late Page":   func(s *pages.Store) api.Errno { _, e := s.Page(1); return e },
		"a Page of now": func(s *pages.Store) api.Errno { _, e := s.Page(2); return e },
		"Put":           func(s *pages.Store) api.Errno { return s.Put(1, []byte(full("x"))) },
		"Alloc":         func(s *pages.Store) api.Errno { _, e := s.Alloc(); return e },
		"Free":          func(s *pages.Store) api.Errno { return s.Free(1) },
		"Commit":        (*pages.Store).Commit,
		"Trim":          (*pages.Store).Trim,
	}
	for name, first := range firsts {
		for _, again := range []bool{false, true} {
			d, s, w := made(t, 96, 64)
			allocBoth(t, s, w)
			putBoth(t, s, w, 1, full("a"))
			commitBoth(t, s, w)
			putBoth(t, s, w, 2, full("b"))
			d.Crash("")
			want(t, name, first(s), api.ErrDead)
			if again {
				d.Start()
			}
			wantDead(t, s)
			if s.Changed() != 1 || s.Used() != 2 || s.Pages() != 64 || s.Behind() != 162 || s.Disk() != d {
				t.Errorf("%s: %d changed, %d used", name, s.Changed(), s.Used())
			}
			s.Abort()
			if s.Changed() != 0 {
				t.Errorf("%s: %d changed", name, s.Changed())
			}
			want(t, "Commit without a change", s.Commit(), api.ErrDead)
			wantOpened(t, d, w)
		}
	}
}

// A store that was asked nothing meanwhile goes on: nothing of it waits.
func TestAStoreThatNeverHeardOfIt(t *testing.T) {
	d, s, w := made(t, 96, 64)
	allocBoth(t, s, w)
	commitBoth(t, s, w)
	putBoth(t, s, w, 1, full("a"))
	d.Crash("")
	d.Start()
	wantStore(t, s, w)
	commitBoth(t, s, w)
	wantStore(t, s, w)
	wantOpened(t, d, w)
}

// A run is a store, and what is told of it, through random acts.
type run struct {
	r     *rand.Rand
	s     *pages.Store
	w     *told
	count int
}

func (x *run) page() int { return x.r.IntN(len(x.w.committed)+2) - 1 }

// change does one act of a change.
func (x *run) change(t *testing.T) {
	t.Helper()
	switch x.r.IntN(6) {
	case 0, 1:
		allocBoth(t, x.s, x.w)
	case 2:
		freeBoth(t, x.s, x.w, x.page())
	default:
		x.count++
		putBoth(t, x.s, x.w, x.page(), full(fmt.Sprint(x.count)))
	}
}

// step does one act of a change, or ends it.
func (x *run) step(t *testing.T) {
	t.Helper()
	switch x.r.IntN(40) {
	case 0, 1:
		commitBoth(t, x.s, x.w)
	case 2:
		x.s.Abort()
		x.w.abort()
	default:
		x.change(t)
	}
}

func TestRandomChanges(t *testing.T) {
	for seed := range uint64(20) {
		x := &run{r: rand.New(rand.NewPCG(8, seed))}
		d, s, w := made(t, 96, 64+x.r.IntN(12))
		x.s, x.w = s, w
		for i := range 600 {
			x.step(t)
			if i%20 == 0 {
				wantStore(t, x.s, x.w)
				wantOpened(t, d, x.w)
			}
		}
		wantStore(t, x.s, x.w)
	}
}
