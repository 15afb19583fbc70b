package pages_test

import (
	"fmt"
	"slices"
	"strings"
	"testing"

	"armarium/api"
	"armarium/disk"
	"armarium/pages"
	"armarium/wal"
)

// P8.2

func TestOpenOfANewStore(t *testing.T) {
	for _, c := range []struct {
		log, n, more int
		note         string
	}{
		{96, 64, 0, ""}, {96, 64, 9, "n"}, {100, 259, 1, strings.Repeat("\x00", 40)}, {512, 1024, 0, strings.Repeat("\xff", 40)},
	} {
		d := newDisk(t, 2+c.log+c.n+c.more)
		want(t, "Format", pages.Format(d, c.log, c.n, c.note), api.OK)
		acts := d.Acts()
		s := opened(t, d)
		if d.Acts()-acts != 1+2 || d.Waiting() != 0 {
			t.Errorf("%d acts, %d wait", d.Acts()-acts, d.Waiting())
		}
		wantStore(t, s, newTold(c.n))
		if s.Note() != c.note || s.Behind() != 2+c.log+c.n || s.Disk() != d {
			t.Errorf("the note is %q, the sector behind %d", s.Note(), s.Behind())
		}
	}
}

func TestNoStore(t *testing.T) {
	var s *pages.Store
	if s.Note() != "" || s.Pages() != 0 || s.Behind() != 0 || s.Disk() != nil || s.Used() != 0 || s.Changed() != 0 {
		t.Error("no store has something")
	}
	b, e := s.Page(0)
	if b != nil {
		t.Errorf("the page is % x", b)
	}
	want(t, "Page", e, api.ErrNil)
	i, e := s.Alloc()
	if i != 0 {
		t.Errorf("the page %d", i)
	}
	want(t, "Alloc", e, api.ErrNil)
	want(t, "Put", s.Put(-1, nil), api.ErrNil)
	want(t, "Put", s.Put(1, make([]byte, 512)), api.ErrNil)
	want(t, "Free", s.Free(0), api.ErrNil)
	want(t, "Free", s.Free(1), api.ErrNil)
	want(t, "Commit", s.Commit(), api.ErrNil)
	want(t, "Trim", s.Trim(), api.ErrNil)
	s.Abort()
	s, e = pages.Open(nil)
	if s != nil {
		t.Error("a store of no disk")
	}
	want(t, "Open", e, api.ErrNil)
}

// A store that Open did not make has no pages, and no disk.
func TestAZeroStore(t *testing.T) {
	s := &pages.Store{}
	if s.Note() != "" || s.Pages() != 0 || s.Disk() != nil || s.Used() != 0 || s.Changed() != 0 {
		t.Error("a zero store has something")
	}
	_, e := s.Page(0)
	want(t, "Page", e, api.ErrArg)
	want(t, "Put", s.Put(1, make([]byte, 512)), api.ErrArg)
	want(t, "Free", s.Free(1), api.ErrArg)
	if _, e := s.Alloc(); e == api.OK {
		t.Error("a page of a zero store")
	}
	s.Commit()
	s.Abort()
	s.Trim()
	s.Behind()
}

// withTexts is a disk of 64 pages, on which each page has its number, and all are used, and whose log has these texts.
func withTexts(t *testing.T, texts ...string) (*disk.Disk, *told) {
	t.Helper()
	d, s, w := made(t, 96, 64)
	for i := range 63 {
		allocBoth(t, s, w)
		putBoth(t, s, w, 1+i, full(fmt.Sprint("page ", 1+i)))
	}
	commitBoth(t, s, w)
	opened(t, d) // all lies on its sectors
	l, _, e := wal.Open(d)
	want(t, "Open of the log", e, api.OK)
	want(t, "Trim", l.Trim(), api.OK)
	for _, text := range texts {
		want(t, "Commit of a text", l.Commit(text), api.OK)
	}
	return d, w
}

// rewrite is what an Open writes of a text: pages by their numbers, rising.
type rewrite struct {
	at int
	p  string
}

func textOf(l []rewrite) string {
	var text strings.Builder
	for _, x := range l {
		text.WriteString(entry(x.at, x.p))
	}
	return text.String()
}

func someTexts() [][]rewrite {
	return [][]rewrite{
		{{1, full("a1")}, {5, full("a5")}, {63, full("a63")}},
		{{0, "\x07" + zeros(511)}},
		{{1, full("b1")}, {2, full("b2")}, {5, zeros(512)}},
		{{0, "\x0f" + zeros(511)}, {5, full("d5")}, {9, full("d9")}},
	}
}

func TestOpenWritesWhatTheLogHas(t *testing.T) {
	var texts []string
	writes := 0
	for _, l := range someTexts() {
		texts = append(texts, textOf(l))
		writes += len(l)
	}
	d, w := withTexts(t, texts...)
	acts := d.Acts()
	s := opened(t, d)
	if d.Acts()-acts != uint64(writes)+1+2 || d.Waiting() != 0 {
		t.Errorf("%d acts, %d wait", d.Acts()-acts, d.Waiting())
	}
	for _, l := range someTexts() {
		for _, x := range l {
			w.committed[x.at] = x.p
		}
	}
	wantStore(t, s, w)
	for i, p := range w.committed {
		wantRaw(t, d, 96, i, p)
	}
	if _, left, _ := logOf(t, d); len(left) != 0 {
		t.Errorf("the log has %d texts still", len(left))
	}
	if s.Used() != 4 {
		t.Errorf("%d used", s.Used())
	}
	wantOpened(t, d, w)
}

// Text by text, and each one's pages rising: of the writes those ahead of the power's end are there.
func TestOpenWritesInOrder(t *testing.T) {
	var texts []string
	var all []rewrite
	for _, l := range someTexts() {
		texts = append(texts, textOf(l))
		all = append(all, l...)
	}
	whole, w := withTexts(t, texts...)
	for acts := range len(all) + 1 {
		d := whole.Copy()
		d.Fuse(acts, "\xff\xff")
		s, e := pages.Open(d)
		want(t, "Open", e, api.ErrDead)
		if s != nil {
			t.Fatal("a store beside an error")
		}
		lie := slices.Clone(w.committed)
		for _, x := range all[:acts] {
			lie[x.at] = x.p
		}
		for i, p := range lie {
			wantRaw(t, d, 96, i, p)
		}
		if _, left, _ := logOf(t, d); !slices.Equal(left, texts) {
			t.Fatalf("behind %d acts the log has %d texts", acts, len(left))
		}
	}
}

// The pages are flushed ahead of the trim.
func TestOpenFlushesAheadOfTheTrim(t *testing.T) {
	d, w := withTexts(t, textOf(someTexts()[0]))
	d.Fuse(4, "\xff\xff")
	_, e := pages.Open(d)
	want(t, "Open", e, api.ErrDead)
	wantRaw(t, d, 96, 63, full("a63"))
	for _, x := range someTexts()[0] {
		w.committed[x.at] = x.p
	}
	wantOpened(t, d, w)
}

// wantSpoilt fails unless Open answers that, and writes nothing.
func wantSpoilt(t *testing.T, what string, d *disk.Disk) {
	t.Helper()
	wantUntouched(t, what, d, func() {
		s, e := pages.Open(d)
		want(t, what, e, api.ErrSpoilt)
		if s != nil {
			t.Errorf("%s: a store beside an error", what)
		}
	})
	d.Crash("")
	_, e := pages.Open(d)
	want(t, what+", without power", e, api.ErrDead)
}

func TestOpenOfADiskWithoutALog(t *testing.T) {
	wantSpoilt(t, "bytes 0", newDisk(t, 300))
	wantSpoilt(t, "one sector", newDisk(t, 1))
	wantSpoilt(t, "other bytes", written(t, 300))
}

func TestOpenOfNotesThatAreNone(t *testing.T) {
	good := "\x00\x40"
	notes := []string{"", "\x00", "\x40", "\x00\x3f", "\x00\x00", "\x04\x01", "\xff\xff", "\x40\x00", good + strings.Repeat("n", 41), good + strings.Repeat("n", 62)}
	for _, note := range notes {
		d := newDisk(t, 4096)
		lay(t, d, 2+96, "\x01"+zeros(511))
		want(t, "Format of the log", wal.Format(d, 96, note), api.OK)
		wantSpoilt(t, fmt.Sprintf("the note %q", note), d)
	}
	for _, note := range []string{good, good + strings.Repeat("n", 40), "\x04\x00"} {
		d := newDisk(t, 4096)
		lay(t, d, 2+96, "\x01"+zeros(511))
		want(t, "Format of the log", wal.Format(d, 96, note), api.OK)
		if s := opened(t, d); s.Note() != note[2:] {
			t.Errorf("the note is %q", s.Note())
		}
	}
}

// A note that tells more pages than there are sectors is none of this disk.
func TestOpenOfPagesBeyondTheDisk(t *testing.T) {
	for _, sectors := range []int{98, 99, 160, 161, 162} {
		d := newDisk(t, sectors)
		if sectors > 98 {
			lay(t, d, 98, "\x01"+zeros(511))
		}
		want(t, "Format of the log", wal.Format(d, 96, "\x00\x40"), api.OK)
		if sectors < 162 {
			wantSpoilt(t, fmt.Sprint(sectors, " sectors"), d)
			continue
		}
		wantStore(t, opened(t, d), newTold(64))
	}
}

// badMaps are bytes that are no page 0 of 64 pages: it is not used itself, or one is that is none.
func badMaps() []string {
	return []string{
		zeros(512), "\x02" + zeros(511), "\xfe" + strings.Repeat("\xff", 7) + zeros(504),
		"\x01" + zeros(7) + "\x01" + zeros(503), "\x01" + zeros(510) + "\x80", strings.Repeat("\xff", 512),
	}
}

func TestOpenOfPagesZeroThatAreNone(t *testing.T) {
	for _, p := range badMaps() {
		d, _ := withTexts(t)
		lay(t, d, 98, p)
		wantSpoilt(t, fmt.Sprintf("the page 0 %.9q", p), d)
		d, _ = withTexts(t, textOf([]rewrite{{1, full("x")}}), textOf([]rewrite{{0, p}, {2, full("x")}}))
		wantSpoilt(t, fmt.Sprintf("the page 0 %.9q in the log", p), d)
		d, _ = withTexts(t, textOf([]rewrite{{0, "\x01" + zeros(511)}}), textOf([]rewrite{{0, p}}), textOf([]rewrite{{3, full("x")}}))
		wantSpoilt(t, fmt.Sprintf("the last page 0 %.9q in the log", p), d)
	}
}

// It is the page 0 of behind all texts that says which pages are used.
func TestOpenOfAPageZeroThatTheLogMakesGood(t *testing.T) {
	good := strings.Repeat("\xff", 8) + zeros(504)
	for _, p := range badMaps() {
		d, w := withTexts(t, textOf([]rewrite{{1, full("x")}}), textOf([]rewrite{{0, p}, {2, full("x")}}), textOf([]rewrite{{0, good}}))
		lay(t, d, 98, p)
		w.committed[0], w.committed[1], w.committed[2] = good, full("x"), full("x")
		wantStore(t, opened(t, d), w)
		wantRaw(t, d, 96, 0, good)
	}
}

func TestOpenOfTextsThatAreNone(t *testing.T) {
	good := textOf([]rewrite{{1, full("a")}, {2, full("b")}})
	for what, text := range map[string]string{
		"a byte":            "x",
		"a number":          "\x00\x01",
		"too short a page":  good[:len(good)-1],
		"a page too much":   good + "\x00",
		"a number too much": good + "\x00\x03",
		"no page":           good + entry(64, full("c")),
		"no page at all":    entry(64, full("c")),
		"a far page":        good + entry(0x0103, full("c")),
		"the furthest page": entry(0xffff, full("c")),
		"falling":           entry(2, full("b")) + entry(1, full("a")),
		"twice":             entry(2, full("b")) + entry(2, full("b")),
		"twice, others":     entry(2, full("b")) + entry(2, full("a")),
		"falling to 0":      good + entry(0, "\x01"+zeros(511)),
		"only bytes 0":      zeros(514 * 2),
	} {
		d, _ := withTexts(t, text)
		wantSpoilt(t, what, d)
		d, _ = withTexts(t, good, text, good)
		wantSpoilt(t, what+", amid good ones", d)
		d, _ = withTexts(t, good, good, text)
		wantSpoilt(t, what+", behind good ones", d)
	}
	d, w := withTexts(t, good, entry(63, full("z")))
	w.committed[1], w.committed[2], w.committed[63] = full("a"), full("b"), full("z")
	wantStore(t, opened(t, d), w)
}

// What is put by Open does not hang on what the disk has else, and what waits there is flushed.
func TestOpenFlushesWhatWaits(t *testing.T) {
	d := newDisk(t, 2+96+64+1)
	want(t, "Format", pages.Format(d, 96, 64, ""), api.OK)
	d.Write(162, []byte(full("elsewhere")))
	opened(t, d)
	if d.Waiting() != 0 || string(d.Raw(162)) != full("elsewhere") {
		t.Errorf("%d wait", d.Waiting())
	}
}
