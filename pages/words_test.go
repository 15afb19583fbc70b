package pages_test

import (
	"bytes"
	"fmt"
	"slices"
	"strings"
	"testing"

	"armarium/api"
	"armarium/disk"
	"armarium/pages"
	"armarium/wal"
)

const (
	greatest = int(^uint(0) >> 1)
	lowest   = -greatest - 1
)

// told is a store as the chapter's words tell it: what was committed, and the change.
type told struct {
	committed []string
	change    map[int]string
}

// newTold is what Format leaves: bytes 0, but in the page 0 it alone is used.
func newTold(n int) *told {
	w := &told{change: map[int]string{}}
	for range n {
		w.committed = append(w.committed, zeros(512))
	}
	w.committed[0] = "\x01" + zeros(511)
	return w
}

func zeros(n int) string { return strings.Repeat("\x00", n) }

func (w *told) page(i int) string {
	if p, ok := w.change[i]; ok {
		return p
	}
	return w.committed[i]
}

func (w *told) isUsed(i int) bool { return w.page(0)[i/8]>>(i%8)&1 == 1 }

func (w *told) used() int {
	n := 0
	for i := range w.committed {
		if w.isUsed(i) {
			n++
		}
	}
	return n
}

// use changes the page 0.
func (w *told) use(i int, used bool) {
	b := []byte(w.page(0))
	b[i/8] &^= 1 << (i % 8)
	if used {
		b[i/8] |= 1 << (i % 8)
	}
	w.change[0] = string(b)
}

func (w *told) alloc() (int, api.Errno) {
	for i := range w.committed {
		if !w.isUsed(i) {
			w.use(i, true)
			w.change[i] = zeros(512)
			return i, api.OK
		}
	}
	return 0, api.ErrFull
}

func (w *told) free(i int) api.Errno {
	if i <= 0 || i >= len(w.committed) || !w.isUsed(i) {
		return api.ErrArg
	}
	w.use(i, false)
	return api.OK
}

func (w *told) put(i int, s string) api.Errno {
	if i <= 0 || i >= len(w.committed) || len(s) != 512 {
		return api.ErrArg
	}
	w.change[i] = s
	return api.OK
}

// numbers are the change's pages, rising.
func (w *told) numbers() []int {
	var l []int
	for i := range w.committed {
		if _, ok := w.change[i]; ok {
			l = append(l, i)
		}
	}
	return l
}

// text is the change's text.
func (w *told) text() string {
	var text strings.Builder
	for _, i := range w.numbers() {
		text.WriteString(entry(i, w.change[i]))
	}
	return text.String()
}

// entry is what a text has of a page.
func entry(i int, p string) string { return string([]byte{byte(i >> 8), byte(i)}) + p }

// commit is a commit that has room.
func (w *told) commit() {
	for i, p := range w.change {
		w.committed[i] = p
	}
	w.abort()
}

func (w *told) abort() { w.change = map[int]string{} }

// copy goes its own way.
func (w *told) copy() *told {
	c := &told{slices.Clone(w.committed), map[int]string{}}
	for i, p := range w.change {
		c.change[i] = p
	}
	return c
}

// sheets is how many sectors of a log a text takes.
func sheets(text string) int { return max(1, (len(text)+496)/497) }

// full is a page's bytes, of which no two names have the same.
func full(name string) string {
	return strings.Repeat(name+"|", 512/len(name)+1)[:512]
}

// The tests' helpers.

func newDisk(t *testing.T, sectors int) *disk.Disk {
	t.Helper()
	d, e := disk.New(sectors)
	if e != api.OK {
		t.Fatal(e)
	}
	return d
}

// lay writes a sector of the disk.
func lay(t *testing.T, d *disk.Disk, at int, s string) {
	t.Helper()
	want(t, "Write", d.Write(at, []byte(s)), api.OK)
	want(t, "Flush", d.Flush(), api.OK)
}

func want(t *testing.T, what string, got, want api.Errno) {
	t.Helper()
	if got != want {
		t.Fatalf("%s: %v; want %v", what, got, want)
	}
}

// sectorsOf are all sectors of a disk.
func sectorsOf(d *disk.Disk) []string {
	var all []string
	for at := range d.Len() {
		all = append(all, string(d.Raw(at)))
	}
	return all
}

// wantUntouched fails unless a call left the disk as it was, without any act.
func wantUntouched(t *testing.T, what string, d *disk.Disk, call func()) {
	t.Helper()
	was, acts, waiting := sectorsOf(d), d.Acts(), d.Waiting()
	call()
	if !slices.Equal(sectorsOf(d), was) || d.Acts() != acts || d.Waiting() != waiting {
		t.Errorf("%s: the disk was touched: %d acts, %d wait", what, d.Acts()-acts, d.Waiting())
	}
}

// logOf answers the note and texts of a disk's log, and how many sectors it has.
func logOf(t *testing.T, d *disk.Disk) (string, []string, int) {
	t.Helper()
	c := d.Copy()
	c.Start()
	l, texts, e := wal.Open(c)
	want(t, "Open of the log", e, api.OK)
	return l.Note(), texts, l.Sectors()
}

// made answers the store of a new disk of just so many sectors as it needs.
func made(t *testing.T, log, n int) (*disk.Disk, *pages.Store, *told) {
	t.Helper()
	d := newDisk(t, 2+log+n)
	want(t, "Format", pages.Format(d, log, n, ""), api.OK)
	s := opened(t, d)
	w := newTold(n)
	wantStore(t, s, w)
	return d, s, w
}

func opened(t *testing.T, d *disk.Disk) *pages.Store {
	t.Helper()
	s, e := pages.Open(d)
	want(t, "Open", e, api.OK)
	return s
}

func pageOf(t *testing.T, s *pages.Store, i int) string {
	t.Helper()
	b, e := s.Page(i)
	want(t, fmt.Sprint("Page ", i), e, api.OK)
	return string(b)
}

// wantStore fails unless a store answers in all what is told.
func wantStore(t *testing.T, s *pages.Store, w *told) {
	t.Helper()
	if s.Pages() != len(w.committed) || s.Used() != w.used() || s.Changed() != len(w.change) {
		t.Fatalf("%d pages, %d used, %d changed; want %d, %d, %d", s.Pages(), s.Used(), s.Changed(), len(w.committed), w.used(), len(w.change))
	}
	for i := range w.committed {
		if got := pageOf(t, s, i); got != w.page(i) {
			t.Fatalf("the page %d is %.20q; want %.20q", i, got, w.page(i))
		}
	}
}

// wantOpened fails unless a store that is opened on a copy of the disk, with power, and no fuse, has what was committed.
func wantOpened(t *testing.T, d *disk.Disk, w *told) {
	t.Helper()
	c := d.Copy()
	c.Crash("")
	c.Start()
	wantStore(t, opened(t, c), &told{w.committed, nil})
}

// wantRaw fails unless a page lies so on its sector.
func wantRaw(t *testing.T, d *disk.Disk, log, i int, p string) {
	t.Helper()
	if got := d.Raw(2 + log + i); !bytes.Equal(got, []byte(p)) {
		t.Fatalf("the page %d lies as %.20q; want %.20q", i, got, p)
	}
}

// putBoth changes a page of a store, and of what is told.
func putBoth(t *testing.T, s *pages.Store, w *told, i int, p string) {
	t.Helper()
	want(t, fmt.Sprint("Put ", i), s.Put(i, []byte(p)), w.put(i, p))
}

// allocBoth takes the least page that is not used, of both.
func allocBoth(t *testing.T, s *pages.Store, w *told) int {
	t.Helper()
	i, e := s.Alloc()
	wantI, wantE := w.alloc()
	if i != wantI || e != wantE {
		t.Fatalf("Alloc: %d, %v; want %d, %v", i, e, wantI, wantE)
	}
	return i
}

func freeBoth(t *testing.T, s *pages.Store, w *told, i int) {
	t.Helper()
	want(t, fmt.Sprint("Free ", i), s.Free(i), w.free(i))
}

func commitBoth(t *testing.T, s *pages.Store, w *told) {
	t.Helper()
	want(t, "Commit", s.Commit(), api.OK)
	w.commit()
}
