package pages_test

import (
	"fmt"
	"maps"
	"slices"
	"testing"

	"armarium/api"
	"armarium/disk"
	"armarium/pages"
)

// P8.4

// wantCommitted fails unless the change's text, and nothing else, is committed in the log, behind these texts.
func wantCommitted(t *testing.T, d *disk.Disk, s *pages.Store, w *told, texts []string) []string {
	t.Helper()
	text := w.text()
	acts := d.Acts()
	commitBoth(t, s, w)
	if got := d.Acts() - acts; got != uint64(sheets(text))+1 || d.Waiting() != 0 {
		t.Fatalf("%d acts, %d wait; want %d", got, d.Waiting(), sheets(text)+1)
	}
	texts = append(texts, text)
	if _, got, _ := logOf(t, d); !slices.Equal(got, texts) {
		t.Fatalf("the log has %d texts; want %d", len(got), len(texts))
	}
	wantStore(t, s, w)
	wantOpened(t, d, w)
	return texts
}

func TestCommitPutsTheChangesText(t *testing.T) {
	d, s, w := made(t, 96, 300)
	var texts []string
	for _, l := range [][]int{{1}, {299, 2, 258, 1}, {5, 4, 3, 2, 1}, {256, 255, 257}, {1, 1, 1}} {
		for _, i := range l {
			putBoth(t, s, w, i, full(fmt.Sprint(i, " of ", len(texts))))
		}
		texts = wantCommitted(t, d, s, w, texts)
	}
	allocBoth(t, s, w)
	texts = wantCommitted(t, d, s, w, texts)
	freeBoth(t, s, w, 1)
	texts = wantCommitted(t, d, s, w, texts)
	for i := range 300 {
		p := zeros(512)
		if i == 0 {
			p = "\x01" + zeros(511)
		}
		wantRaw(t, d, 96, i, p)
	}
	// The first text, byte by byte.
	if texts[0] != "\x00\x01"+full("1 of 0") || texts[1][:2] != "\x00\x01" || texts[1][2*514:2*514+2] != "\x01\x02" || texts[1][3*514:3*514+2] != "\x01\x2b" {
		t.Error("the texts are others")
	}
}

func TestTheChaptersExample(t *testing.T) {
	d, s, w := made(t, 96, 64)
	if allocBoth(t, s, w) != 1 {
		t.Fatal("another page")
	}
	putBoth(t, s, w, 1, full("a"))
	commitBoth(t, s, w)
	want(t, "Put", s.Put(1, []byte(full("b"))), api.OK)
	if p := pageOf(t, opened(t, d), 1); p != full("a") {
		t.Errorf("the page is %.20q", p)
	}
}

func TestCommitWithoutAChange(t *testing.T) {
	d, s, w := made(t, 96, 64)
	nothing := func() {
		t.Helper()
		wantUntouched(t, "Commit", d, func() { want(t, "Commit", s.Commit(), api.OK) })
		wantStore(t, s, w)
	}
	nothing()
	putBoth(t, s, w, 1, full("a"))
	commitBoth(t, s, w)
	nothing()
	putBoth(t, s, w, 1, full("b"))
	s.Abort()
	w.abort()
	nothing()
	if _, texts, _ := logOf(t, d); len(texts) != 1 {
		t.Errorf("the log has %d texts", len(texts))
	}
}

// narrow answers a store whose log has 8 sectors left, and a change of 10 pages, that takes 11; and which pages are late.
func narrow(t *testing.T) (*disk.Disk, *pages.Store, *told, []int) {
	t.Helper()
	d, s, w := made(t, 96, 64)
	late := map[int]bool{}
	put := func(round int) {
		for i := range 10 {
			at := 1 + (round*7+i*3)%63
			putBoth(t, s, w, at, full(fmt.Sprint(round, " ", at)))
		}
	}
	for round := range 8 {
		put(round)
		for _, i := range w.numbers() {
			late[i] = true
		}
		commitBoth(t, s, w)
	}
	put(8)
	return d, s, w, slices.Sorted(maps.Keys(late))
}

func TestCommitChecksOutFirst(t *testing.T) {
	d, s, w, late := narrow(t)
	text, lie := w.text(), slices.Clone(w.committed)
	if _, texts, _ := logOf(t, d); len(texts) != 8 || s.Left() != 8 || sheets(text) != 11 {
		t.Fatalf("the log has %d texts, %d left; %d sheets", len(texts), s.Left(), sheets(text))
	}
	acts := d.Acts()
	commitBoth(t, s, w)
	if got, wantActs := d.Acts()-acts, uint64(len(late)+1+2+11+1); got != wantActs || d.Waiting() != 0 {
		t.Fatalf("%d acts, %d wait; want %d", got, d.Waiting(), wantActs)
	}
	for i, p := range lie {
		wantRaw(t, d, 96, i, p)
	}
	if _, texts, _ := logOf(t, d); len(texts) != 1 || texts[0] != text {
		t.Fatalf("the log has %d texts", len(texts))
	}
	wantStore(t, s, w)
	wantOpened(t, d, w)
}

// Of the late pages those ahead of the power's end lie on their sectors, rising; the log is trimmed behind all of them, and a flush.
func TestCheckingOutGoesInOrder(t *testing.T) {
	_, _, _, late := narrow(t)
	for acts := range len(late) + 2 {
		d, s, w, _ := narrow(t)
		was := sectorsOf(d)
		want(t, "Fuse", d.Fuse(acts, "\xff\xff\xff\xff\xff\xff\xff\xff"), api.OK)
		want(t, "Commit", s.Commit(), api.ErrDead)
		for _, i := range late[:min(acts, len(late))] {
			was[2+96+i] = w.committed[i]
		}
		if !slices.Equal(sectorsOf(d), was) {
			t.Fatalf("behind %d acts other sectors are written", acts)
		}
		wantOpened(t, d, w)
	}
}

// What lies on its sector is not written again by the next check-out.
func TestCheckingOutWritesOnce(t *testing.T) {
	d, s, w := made(t, 96, 64)
	for round := range 3 {
		putBoth(t, s, w, 1+round, full(fmt.Sprint(round)))
		putBoth(t, s, w, 40, full(fmt.Sprint(round)))
		commitBoth(t, s, w)
		putBoth(t, s, w, 40, full(fmt.Sprint(round, "again")))
		commitBoth(t, s, w)
		for _, late := range []int{2, 0} {
			acts := d.Acts()
			want(t, "Trim", s.Trim(), api.OK)
			if got := d.Acts() - acts; got != uint64(late)+1+2 {
				t.Errorf("%d acts", got)
			}
			if _, texts, _ := logOf(t, d); len(texts) != 0 {
				t.Errorf("the log has %d texts", len(texts))
			}
			wantStore(t, s, w)
			wantOpened(t, d, w)
		}
	}
}

// A change that just goes in does not check out.
func TestCommitOfWhatIsJustLeft(t *testing.T) {
	d, s, w := made(t, 96, 64)
	for i := 1; i <= 46; i++ {
		putBoth(t, s, w, i, full("a"))
	}
	commitBoth(t, s, w)
	for i := 1; i <= 46; i++ {
		putBoth(t, s, w, i, full("b"))
	}
	text := w.text()
	if s.Left() != sheets(text) {
		t.Fatalf("%d left, %d sheets", s.Left(), sheets(text))
	}
	commitBoth(t, s, w)
	if _, texts, _ := logOf(t, d); len(texts) != 2 || s.Left() != 0 {
		t.Errorf("the log has %d texts, %d left", len(texts), s.Left())
	}
	putBoth(t, s, w, 1, full("c"))
	commitBoth(t, s, w)
	if _, texts, _ := logOf(t, d); len(texts) != 1 {
		t.Errorf("the log has %d texts", len(texts))
	}
	wantStore(t, s, w)
	wantOpened(t, d, w)
}

// putMany changes so many pages.
func putMany(t *testing.T, s *pages.Store, w *told, n int, name string) {
	t.Helper()
	for i := 1; i <= n; i++ {
		putBoth(t, s, w, i, full(fmt.Sprint(name, i)))
	}
}

// The most that a log has room for, and a page more, also where it is not trimmed.
func TestCommitOfMoreThanTheLogHasRoomFor(t *testing.T) {
	for _, c := range []struct{ log, most int }{{96, 92}, {97, 93}, {200, 193}, {512, 495}} {
		d, s, w := made(t, c.log, 600)
		allocBoth(t, s, w)
		putBoth(t, s, w, 1, full("kept"))
		commitBoth(t, s, w)
		for range 2 {
			putMany(t, s, w, c.most+1, "lost")
			left := s.Left()
			wantUntouched(t, "Commit", d, func() { want(t, "Commit", s.Commit(), api.ErrLimit) })
			w.abort()
			wantStore(t, s, w)
			wantOpened(t, d, w)
			if s.Left() != left {
				t.Errorf("%d left", s.Left())
			}
			wantUntouched(t, "Commit behind that", d, func() { want(t, "Commit", s.Commit(), api.OK) })
			putMany(t, s, w, c.most, "most")
			commitBoth(t, s, w)
			wantStore(t, s, w)
			wantOpened(t, d, w)
		}
	}
}

// A change that is gone takes what it used with it.
func TestAChangeThatIsGoneUsesNothing(t *testing.T) {
	d, s, w := made(t, 96, 300)
	for range 5 {
		allocBoth(t, s, w)
	}
	commitBoth(t, s, w)
	freeBoth(t, s, w, 3)
	for range 100 {
		allocBoth(t, s, w)
	}
	want(t, "Commit", s.Commit(), api.ErrLimit)
	w.abort()
	wantStore(t, s, w)
	if allocBoth(t, s, w) != 6 {
		t.Error("another page")
	}
	commitBoth(t, s, w)
	wantStore(t, s, w)
	wantOpened(t, d, w)
}

// Without power that is what is told first, and the change stays.
func TestCommitOfTooMuchWithoutPower(t *testing.T) {
	d, s, w := made(t, 96, 300)
	putMany(t, s, w, 100, "lost")
	d.Crash("")
	want(t, "Commit", s.Commit(), api.ErrDead)
	if s.Changed() != 100 {
		t.Errorf("%d changed", s.Changed())
	}
}

// A commit that the power cuts, wherever, leaves the change as it is.
func TestACommitThatIsCutLeavesTheChange(t *testing.T) {
	for acts := range 200 {
		d, s, w, _ := narrow(t)
		allocBoth(t, s, w)
		used, changed := s.Used(), s.Changed()
		want(t, "Fuse", d.Fuse(acts, "\xff"), api.OK)
		if s.Commit() == api.OK {
			return
		}
		if s.Used() != used || s.Changed() != changed || used != 2 || changed < 10 {
			t.Fatalf("behind %d acts: %d used, %d changed; want %d, %d", acts, s.Used(), s.Changed(), used, changed)
		}
	}
	t.Error("more acts than there are")
}

func TestAbort(t *testing.T) {
	d, s, w := made(t, 96, 64)
	wantUntouched(t, "Abort", d, func() {
		s.Abort()
		wantStore(t, s, w)
		for range 3 {
			allocBoth(t, s, w)
			putBoth(t, s, w, 1, full("lost"))
			putBoth(t, s, w, 60, full("lost"))
			s.Abort()
			w.abort()
			wantStore(t, s, w)
		}
	})
	for range 4 {
		allocBoth(t, s, w)
	}
	putBoth(t, s, w, 2, full("kept"))
	commitBoth(t, s, w)
	freeBoth(t, s, w, 2)
	putBoth(t, s, w, 2, full("lost"))
	allocBoth(t, s, w)
	s.Abort()
	w.abort()
	wantStore(t, s, w)
	if s.Used() != 5 || s.Changed() != 0 || pageOf(t, s, 2) != full("kept") {
		t.Errorf("%d used, %d changed", s.Used(), s.Changed())
	}
	freeBoth(t, s, w, 4)
	commitBoth(t, s, w)
	s.Abort()
	wantStore(t, s, w)
	wantOpened(t, d, w)
}
