package wal_test

import (
	"bytes"
	"fmt"
	"strings"
	"testing"

	"armarium/api"
	"armarium/disk"
	"armarium/sheet"
	"armarium/wal"
)

// P6.3

// wantCommitted fails unless a text's sheets are written, from a number on, to their places.
func wantCommitted(t *testing.T, d *disk.Disk, l *wal.Log, seq uint64, text string) {
	t.Helper()
	sheets := sheet.Cut(seq, text)
	var at []int
	for _, s := range sheets {
		at = append(at, place(s.Seq, l.Sectors()))
	}
	left := l.Left()
	wantWritten(t, "Commit", d, func() { want(t, "Commit", l.Commit(text), api.OK) }, at...)
	for i, s := range sheets {
		if b, _ := sheet.Put(s); !bytes.Equal(b, d.Raw(at[i])) {
			got, e := sheet.Take(d.Raw(at[i]))
			t.Fatalf("the sector %d has %v, %v; want %v", at[i], got, e, s)
		}
	}
	if l.Left() != left-len(sheets) {
		t.Fatalf("%d left behind a text of %d sheets; %d were", l.Left(), len(sheets), left)
	}
}

func TestCommitOfTextsOfSomeLengths(t *testing.T) {
	for _, n := range []int{0, 1, 2, 496, 497, 498, 993, 994, 995, 497*95 + 1, 497*96 - 1, 497 * 96} {
		d, l := trimmed(t, 120, 96, "note")
		text := textOf("t", 96)[:n]
		wantCommitted(t, d, l, 1, text)
		wantTexts(t, d, text)
	}
}

func TestCommitOfTextsOneBehindTheOther(t *testing.T) {
	d, l := trimmed(t, 120, 97, "note")
	var texts []string
	next := uint64(1)
	for i, sheets := range []int{1, 2, 0, 5, 1, 40, 0, 40, 3, 3} {
		text := textOf(fmt.Sprint(i), sheets)
		wantCommitted(t, d, l, next, text)
		next += uint64(sheet.Need(len(text)))
		texts = append(texts, text)
		wantTexts(t, d, texts...)
	}
	if l.Left() != 0 {
		t.Errorf("%d left", l.Left())
	}
	want(t, "Commit", l.Commit(""), api.ErrFull)
	wantTexts(t, d, texts...)
}

func TestPlacesGoRound(t *testing.T) {
	d, l := trimmed(t, 120, 96, "note")
	next := uint64(1)
	for i := range 12 {
		text := textOf(fmt.Sprint(i, "-"), 1+17*i%96)
		wantCommitted(t, d, l, next, text)
		wantTexts(t, d, text)
		next += uint64(sheet.Need(len(text)))
		want(t, "Trim", l.Trim(), api.OK)
	}
}

func TestBytesOfTextsAreAnyBytes(t *testing.T) {
	d, l := trimmed(t, 98, 96, "")
	texts := []string{"\x00", strings.Repeat("\xff\x00ä", 400), strings.Repeat("\x00", 497*3), ""}
	for _, text := range texts {
		want(t, "Commit", l.Commit(text), api.OK)
	}
	wantTexts(t, d, texts...)
}

// wantRefused fails unless Commit answers that error, and leaves the log as it was.
func wantRefused(t *testing.T, d *disk.Disk, l *wal.Log, text string, e api.Errno) {
	t.Helper()
	left := l.Left()
	wantUntouched(t, "Commit", d, func() {
		if got := l.Commit(text); got != e || l.Left() != left {
			t.Errorf("%d bytes: %v, %d left; want %v, %d", len(text), got, l.Left(), e, left)
		}
	})
}

func TestCommitOfTooMuch(t *testing.T) {
	d, l := trimmed(t, 120, 96, "")
	wantRefused(t, d, l, textOf("x", 97)[:497*96+1], api.ErrLimit)
	wantRefused(t, d, l, strings.Repeat("x", 1<<20), api.ErrLimit)
	wantCommitted(t, d, l, 1, textOf("a", 95))
	wantRefused(t, d, l, textOf("x", 2)[:498], api.ErrFull)
	wantRefused(t, d, l, textOf("x", 96), api.ErrFull)
	wantRefused(t, d, l, textOf("x", 97)[:497*96+1], api.ErrLimit)
	wantCommitted(t, d, l, 96, textOf("b", 1))
	wantRefused(t, d, l, "", api.ErrFull)
	wantTexts(t, d, textOf("a", 95), textOf("b", 1))
}

func TestNoneAreLeftAheadOfTheFirstTrim(t *testing.T) {
	d := newDisk(t, 120)
	want(t, "Format", wal.Format(d, 100, ""), api.OK)
	for range 2 {
		l, _ := opened(t, d)
		wantRefused(t, d, l, "", api.ErrFull)
		wantRefused(t, d, l, textOf("x", 100), api.ErrFull)
		wantRefused(t, d, l, textOf("x", 101), api.ErrLimit)
		want(t, "Trim", l.Trim(), api.OK)
		if l.Left() != 100 {
			t.Errorf("%d left", l.Left())
		}
		want(t, "Commit", l.Commit("a"), api.OK)
	}
}

// A refused text takes no number: the next one stands where it would have stood.
func TestARefusedTextIsAsIfItHadNotBeen(t *testing.T) {
	d, l := trimmed(t, 98, 96, "")
	wantCommitted(t, d, l, 1, textOf("a", 90))
	wantRefused(t, d, l, textOf("x", 7), api.ErrFull)
	wantCommitted(t, d, l, 91, textOf("b", 6))
	wantTexts(t, d, textOf("a", 90), textOf("b", 6))
}

// The sheets are written in order: of those ahead of the power's end all are there.
func TestCommitWritesInOrder(t *testing.T) {
	for acts := range 6 {
		d, l := trimmed(t, 98, 96, "")
		d.Fuse(acts, "\xff")
		want(t, "Commit", l.Commit(textOf("a", 5)), api.ErrDead)
		for i := range 5 {
			if _, e := sheet.Take(d.Raw(3 + i)); (e == api.OK) != (i < acts) {
				t.Errorf("behind %d acts: the sheet %d: %v", acts, i, e)
			}
		}
	}
}

// What waited ahead of a call is flushed by it.
func TestCommitAndTrimFlushAll(t *testing.T) {
	for _, call := range []func(l *wal.Log) api.Errno{(*wal.Log).Trim, func(l *wal.Log) api.Errno { return l.Commit("a") }} {
		d, l := trimmed(t, 120, 96, "")
		d.Write(119, bytes.Repeat([]byte{7}, api.Sector))
		want(t, "the call", call(l), api.OK)
		if d.Waiting() != 0 || d.Raw(119)[0] != 7 {
			t.Errorf("%d wait", d.Waiting())
		}
	}
}

// P6.4

// wantTrimmed fails unless Trim writes just that head to that sector, and all sectors are left.
func wantTrimmed(t *testing.T, d *disk.Disk, l *wal.Log, at int, h head) {
	t.Helper()
	wantWritten(t, "Trim", d, func() { want(t, "Trim", l.Trim(), api.OK) }, at)
	if !bytes.Equal(d.Raw(at), h.sector()) {
		got, ok := headOf(d.Raw(at))
		t.Fatalf("the sector %d has %+v, %v; want %+v", at, got, ok, h)
	}
	if l.Left() != h.sectors || l.Sectors() != h.sectors || l.Note() != h.note {
		t.Fatalf("%d left of %d, note %q; want %+v", l.Left(), l.Sectors(), l.Note(), h)
	}
	wantTexts(t, d)
}

func TestTrim(t *testing.T) {
	d := newDisk(t, 120)
	want(t, "Format", wal.Format(d, 100, "the note"), api.OK)
	l, _ := opened(t, d)
	wantTrimmed(t, d, l, 0, head{2, 1, 100, "the note"})
	wantTrimmed(t, d, l, 1, head{3, 1, 100, "the note"})
	wantCommitted(t, d, l, 1, textOf("a", 7))
	wantTrimmed(t, d, l, 0, head{4, 8, 100, "the note"})
	wantCommitted(t, d, l, 8, textOf("b", 100))
	wantTrimmed(t, d, l, 1, head{5, 108, 100, "the note"})
	l, _ = opened(t, d)
	wantTrimmed(t, d, l, 0, head{6, 108, 100, "the note"})
}

func TestTrimTakesTheHeadThatDoesNotCount(t *testing.T) {
	none := make([]byte, api.Sector)
	of := func(generation uint64) []byte { return head{generation, 3, 96, "n"}.sector() }
	for _, c := range []struct {
		zero, one  []byte
		at         int
		generation uint64
	}{
		{of(7), none, 1, 8}, {none, of(7), 0, 8}, {of(7), of(7), 1, 8}, {of(8), of(7), 1, 9}, {of(7), of(8), 0, 9}, {of(0), none, 1, 1},
	} {
		d := newDisk(t, 98)
		lay(t, d, 0, c.zero, c.one)
		l, _ := opened(t, d)
		wantTrimmed(t, d, l, c.at, head{c.generation, 3, 96, "n"})
	}
}

// The first Trim goes on behind all sheets, also behind those of texts that are lost.
func TestTrimGoesOnBehindAllSheets(t *testing.T) {
	d := withSheets(t, 5,
		sheet.Sheet{Seq: 5, Last: true, Text: "a"}, sheet.Sheet{Seq: 6, Text: "lost"}, sheet.Sheet{Seq: 40, Last: true, Text: "lost"}, sheet.Sheet{Seq: 30})
	wantTexts(t, d, "a")
	l, _ := opened(t, d)
	wantTrimmed(t, d, l, 0, head{2, 41, 96, ""})
	wantCommitted(t, d, l, 41, "b")
	d = withSheets(t, 50, sheet.Sheet{Seq: 5, Last: true, Text: "a"})
	l, _ = opened(t, d)
	wantTrimmed(t, d, l, 0, head{2, 50, 96, ""})
}

// Once the disk said ErrDead, a log says so, whatever it is asked, and whether there is power again or not.
func TestDeadForEver(t *testing.T) {
	calls := map[string]func(l *wal.Log) api.Errno{
		"Commit": func(l *wal.Log) api.Errno { return l.Commit("lost") },
		"Trim":   (*wal.Log).Trim,
	}
	for name, call := range calls {
		for i := range 4 {
			d, l := trimmed(t, 98, 96, "note")
			want(t, "Commit", l.Commit("kept"), api.OK)
			d.Fuse(i%2, "")
			want(t, name, call(l), api.ErrDead)
			if i/2 == 0 { // else it is asked nothing till there is power again
				wantDead(t, d, l)
			}
			d.Start()
			wantDead(t, d, l)
			if l.Left() != 95 || l.Sectors() != 96 || l.Note() != "note" {
				t.Errorf("%d left of %d, note %q", l.Left(), l.Sectors(), l.Note())
			}
			wantTexts(t, d, "kept")
		}
	}
}

func wantDead(t *testing.T, d *disk.Disk, l *wal.Log) {
	t.Helper()
	wantUntouched(t, "a dead log", d, func() {
		want(t, "Trim", l.Trim(), api.ErrDead)
		want(t, "Commit", l.Commit(""), api.ErrDead)
		want(t, "Commit of too much", l.Commit(textOf("x", 97)), api.ErrDead)
	})
}

// Ahead of that, what a log knows by itself goes first; and a log that never heard of it goes on.
func TestALogThatNeverHeardOfIt(t *testing.T) {
	d, l := trimmed(t, 98, 96, "")
	want(t, "Commit", l.Commit("a"), api.OK)
	d.Crash("")
	want(t, "Commit of too much", l.Commit(textOf("x", 97)), api.ErrLimit)
	want(t, "Commit of more than is left", l.Commit(textOf("x", 96)), api.ErrFull)
	d.Start()
	want(t, "Commit", l.Commit("b"), api.OK)
	wantTexts(t, d, "a", "b")
	d.Crash("")
	want(t, "Commit", l.Commit("c"), api.ErrDead)
	d.Start()
	want(t, "Commit", l.Commit("c"), api.ErrDead)
	wantTexts(t, d, "a", "b")
}
