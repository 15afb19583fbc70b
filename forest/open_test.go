package forest_test

import (
	"fmt"
	"slices"
	"strings"
	"testing"

	"armarium/api"
	"armarium/disk"
	"armarium/forest"
	"armarium/node"
	"armarium/pages"
)

// P11.1

func TestNumbers(t *testing.T) {
	names := []int{forest.Counts, forest.Places, forest.Moved, forest.Snaps, forest.Intents, forest.Held, forest.Queue, forest.Boxes}
	if !slices.Equal(names, []int{0, 1, 2, 3, 4, 5, 6, 7}) || forest.Trees != 8 {
		t.Errorf("%v, %d trees", names, forest.Trees)
	}
}

func TestShape(t *testing.T) {
	for i, w := range widths() {
		if s := forest.Shape(i); s.KW != w[0] || s.VW != w[1] {
			t.Errorf("the shape of %d: %v; want %v", i, s, w)
		}
	}
	for _, i := range noTrees() {
		if s := forest.Shape(i); s != (node.Shape{}) {
			t.Errorf("the shape of %d: %v", i, s)
		}
	}
}

// wantFormatted fails unless Format leaves a store whose pages 0 and 1 alone are used, and the page 1 is bytes 0, committed in one change.
func wantFormatted(t *testing.T, d *disk.Disk, log, n int, note string) {
	t.Helper()
	want(t, "Format", forest.Format(d, log, n, note), api.OK)
	if d.Waiting() != 0 {
		t.Errorf("%d wait", d.Waiting())
	}
	text := "\x00\x00\x03" + zeros(511) + "\x00\x01" + zeros(512)
	if texts := textsOf(t, d); !slices.Equal(texts, []string{text}) {
		t.Errorf("the log has the texts %.40q", texts)
	}
	f := opened(t, d)
	s := f.Store()
	if s.Note() != note || s.Pages() != n || s.Behind() != 2+log+n || s.Disk() != d || s.Used() != 2 {
		t.Errorf("the note %q, %d pages, %d used", s.Note(), s.Pages(), s.Used())
	}
	wantForest(t, f, newTold())
	if pageOf(t, s, 0) != "\x03"+zeros(511) || pageOf(t, s, 1) != zeros(512) {
		t.Error("the pages are others")
	}
}

func TestFormat(t *testing.T) {
	long := strings.Repeat("\x00\xff", 20)
	for _, c := range []struct {
		log, n, more int
		note         string
	}{{96, 64, 0, ""}, {96, 64, 9, long}, {512, 1024, 0, "a"}, {100, 70, 5, "\x00"}, {512, 64, 0, ""}, {96, 1024, 1, long[:39]}} {
		wantFormatted(t, newDisk(t, 2+c.log+c.n+c.more), c.log, c.n, c.note)
	}
}

// What a forest had is gone.
func TestFormatAgain(t *testing.T) {
	d := newDisk(t, 400)
	for round, c := range []struct{ log, n int }{{96, 64}, {96, 64}, {200, 100}, {96, 80}} {
		wantFormatted(t, d, c.log, c.n, fmt.Sprint(round))
		f, w := opened(t, d), newTold()
		for i := range 8 {
			doBoth(t, f, w, func(w told) {
				for k := range 30 {
					putBoth(t, f, w, i, keyOf(i, k), valOf(i, round))
				}
			})
		}
		wantForest(t, f, w)
		wantOpened(t, d, w)
	}
}

func TestFormatOfWrongThings(t *testing.T) {
	long := strings.Repeat("n", 41)
	for _, c := range []struct {
		log, n int
		note   string
	}{
		{95, 64, ""}, {513, 64, ""}, {0, 64, ""}, {-1, 64, ""}, {lowest, 64, ""}, {greatest, 64, ""}, {96, 63, ""}, {96, 1025, ""}, {96, 0, ""},
		{96, -1, ""}, {96, lowest, ""}, {96, greatest, ""}, {greatest, greatest, ""}, {96, 64, long}, {96, 203, ""}, {300, 64, ""}, {512, 1024, ""},
	} {
		d := newDisk(t, 300)
		wantUntouched(t, "Format", d, func() {
			want(t, "Format", forest.Format(d, c.log, c.n, c.note), api.ErrArg)
			d.Crash("")
			want(t, "Format without power", forest.Format(d, c.log, c.n, c.note), api.ErrArg)
			want(t, "Format of no disk", forest.Format(nil, c.log, c.n, c.note), api.ErrNil)
		})
	}
	want(t, "Format of no disk", forest.Format(nil, 96, 64, ""), api.ErrNil)
}

// A Format that the power cuts says so; behind it one that is not cut is done.
func TestAFormatIsCut(t *testing.T) {
	for acts := 0; ; acts++ {
		d := newDisk(t, 162)
		want(t, "Fuse", d.Fuse(acts, "\x55\x55"), api.OK)
		if e := forest.Format(d, 96, 64, ""); e == api.OK {
			if acts < 64 {
				t.Errorf("done behind %d acts", acts)
			}
			return
		} else if want(t, "Format", e, api.ErrDead); d.Alive() {
			t.Fatal("there is power")
		}
		want(t, "Format", forest.Format(d, 96, 64, ""), api.ErrDead)
		d.Start()
		if f, e := forest.Open(d); e != api.OK && (e != api.ErrSpoilt || f != nil) {
			t.Fatalf("Open: %v", e)
		} else if e == api.OK {
			wantForest(t, f, newTold())
		}
		wantFormatted(t, d, 96, 64, "again")
	}
}

// wantNone fails unless Open answers none, and that error.
func wantNone(t *testing.T, what string, d *disk.Disk, e api.Errno) {
	t.Helper()
	f, got := forest.Open(d)
	if want(t, "Open: "+what, got, e); f != nil {
		t.Fatalf("Open: %s: a forest beside an error", what)
	}
}

func TestOpenOfNone(t *testing.T) {
	wantNone(t, "no disk", nil, api.ErrNil)
	d := newDisk(t, 200)
	wantNone(t, "a disk that was not formatted", d, api.ErrSpoilt)
	want(t, "Format", forest.Format(d, 96, 64, ""), api.OK)
	d.Crash("")
	wantNone(t, "no power", d, api.ErrDead)
	d.Start()
	wantForest(t, opened(t, d), newTold())
}

// stored answers a store whose page 1 has these bytes, and is used.
func stored(t *testing.T, n int, page string) *disk.Disk {
	t.Helper()
	d := newDisk(t, 98+n)
	want(t, "Format", pages.Format(d, 96, n, ""), api.OK)
	s, e := pages.Open(d)
	want(t, "Open", e, api.OK)
	i, e := s.Alloc()
	if want(t, "Alloc", e, api.OK); i != 1 {
		t.Fatalf("the page %d", i)
	}
	want(t, "Put", s.Put(1, []byte(page)), api.OK)
	want(t, "Commit", s.Commit(), api.OK)
	return d
}

// rootPage is a page 1 with one root, and no other.
func rootPage(i, root int) string {
	b := []byte(zeros(512))
	b[2*i], b[2*i+1] = byte(root>>8), byte(root)
	return string(b)
}

func TestPagesThatAreNoPage1(t *testing.T) {
	wantForest(t, opened(t, stored(t, 64, zeros(512))), newTold())
	for at := 16; at < 512; at++ {
		b := []byte(zeros(512))
		b[at] = 1 << (at % 8)
		wantNone(t, fmt.Sprint("another byte ", at), stored(t, 64, string(b)), api.ErrSpoilt)
	}
	for i := range 8 {
		for _, n := range []int{64, 300} {
			for _, root := range []int{n, n + 1, 1024, 1 << 15, 1<<16 - 1, 1} {
				wantNone(t, fmt.Sprint("the root ", root), stored(t, n, rootPage(i, root)), api.ErrSpoilt)
			}
			for _, root := range []int{2, n - 1} {
				opened(t, stored(t, n, rootPage(i, root)))
			}
		}
	}
}

// A store that is no forest's has a page 1 that is not used.
func TestAStoreWithoutAForest(t *testing.T) {
	d := newDisk(t, 162)
	want(t, "Format", pages.Format(d, 96, 64, ""), api.OK)
	wantNone(t, "a page 1 that is not used", d, api.ErrSpoilt)
	want(t, "Format", forest.Format(d, 96, 64, ""), api.OK)
	f := opened(t, d)
	want(t, "Free", f.Store().Free(1), api.OK)
	want(t, "Commit", f.Store().Commit(), api.OK)
	wantNone(t, "a page 1 that is used no more", d, api.ErrSpoilt)
}

// Each tree's root has a place of its own: trees are opened as they were committed, again and again.
func TestOpenAgain(t *testing.T) {
	f, w := grown(t, 512, 256, 40)
	d := f.Store().Disk()
	for i := range 8 {
		for range 2 {
			f = opened(t, d)
			wantForest(t, f, w)
		}
		doBoth(t, f, w, func(w told) { putBoth(t, f, w, i, keyOf(i, 1), valOf(i, 77)) })
	}
	wantOpened(t, d, w)
	for i := range 8 {
		f = opened(t, d)
		doBoth(t, f, w, func(w told) {
			for key := range w[i] {
				dropBoth(t, f, w, i, key)
			}
		})
		if roots := rootsOf(t, f.Store()); roots[i] != 0 {
			t.Errorf("the roots %v", roots)
		}
		wantOpened(t, d, w)
	}
	if f.Store().Used() != 2 {
		t.Errorf("%d used", f.Store().Used())
	}
}

// Open changes no page.
func TestOpenChangesNoPage(t *testing.T) {
	f, w := grown(t, 512, 128, 20)
	d := f.Store().Disk()
	was := sectorsOf(opened(t, d).Store().Disk())[514:]
	f = opened(t, d)
	if !slices.Equal(sectorsOf(d)[514:], was) {
		t.Error("pages are others")
	}
	wantForest(t, f, w)
}

func TestStore(t *testing.T) {
	var none *forest.Forest
	if none.Store() != nil {
		t.Error("nil has a store")
	}
	f := newForest(t, 96, 64)
	s := f.Store()
	if s == nil || f.Store() != s || s.Pages() != 64 || s.Sectors() != 96 || s.Note() != "note" {
		t.Error("another store")
	}
}
