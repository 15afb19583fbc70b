package wal_test

import (
	"bytes"
	"math"
	"slices"
	"strings"
	"testing"

	"armarium/api"
	"armarium/disk"
	"armarium/sheet"
	"armarium/wal"
)

// P6.2

func TestExamplesOfTheChapter(t *testing.T) {
	d, l := trimmed(t, 98, 96, "")
	want(t, "Commit", l.Commit("a"), api.OK)
	want(t, "Commit", l.Commit("b"), api.OK)
	wantTexts(t, d, "a", "b")
	l, _ = opened(t, d)
	want(t, "Trim", l.Trim(), api.OK)
	wantTexts(t, d)
}

func TestOpenTellsTheHead(t *testing.T) {
	for _, h := range []head{
		{1, 1, 96, ""}, {2, 1, 97, "n"}, {3, 1, 512, strings.Repeat("n", 64)}, {0, 0, 96, "zero\x00\x00"},
		{math.MaxUint64, math.MaxUint64, 300, "\xff\xfe"},
	} {
		for at := range 2 {
			d := newDisk(t, 514)
			lay(t, d, at, h.sector())
			if l, texts := opened(t, d); l.Note() != h.note || l.Sectors() != h.sectors || len(texts) != 0 {
				t.Errorf("%+v: note %q, %d sectors, texts %q", h, l.Note(), l.Sectors(), texts)
			}
		}
	}
}

// wantNote fails unless the head that counts has that note.
func wantNote(t *testing.T, what string, zero, one []byte, note string) {
	t.Helper()
	d := newDisk(t, 98)
	lay(t, d, 0, zero, one)
	l, _, e := wal.Open(d)
	if e != api.OK || l.Note() != note {
		t.Errorf("%s: note %q, %v; want %q", what, l.Note(), e, note)
	}
}

func TestOpenTakesTheHeadThatCounts(t *testing.T) {
	of := func(generation uint64, note string) []byte { return head{generation, 1, 96, note}.sector() }
	none := make([]byte, api.Sector)
	wantNote(t, "0 alone", of(1, "0"), none, "0")
	wantNote(t, "1 alone", none, of(1, "1"), "1")
	wantNote(t, "0 greater", of(2, "0"), of(1, "1"), "0")
	wantNote(t, "1 greater", of(1, "0"), of(2, "1"), "1")
	wantNote(t, "alike", of(2, "0"), of(2, "1"), "0")
	wantNote(t, "alike 0", of(0, "0"), of(0, "1"), "0")
	wantNote(t, "greater by the highest bit", of(1, "0"), of(1<<63, "1"), "1")
	broken := of(3, "broken")
	broken[511] ^= 1
	wantNote(t, "a greater one is broken", broken, of(2, "1"), "1")
	wantNote(t, "a greater one is broken", of(2, "0"), broken, "0")
}

// wantSpoilt fails unless Open answers ErrSpoilt, and nothing else.
func wantSpoilt(t *testing.T, what string, d *disk.Disk) {
	t.Helper()
	wantUntouched(t, what, d, func() {
		if l, texts, e := wal.Open(d); l != nil || len(texts) != 0 || e != api.ErrSpoilt {
			t.Errorf("%s: %v, %q, %v", what, l, texts, e)
		}
	})
}

func TestOpenOfNoHead(t *testing.T) {
	for _, n := range []int{1, 2, 3, 97, 98, 514} {
		wantSpoilt(t, "a new disk", newDisk(t, n))
	}
	sound := head{7, 3, 300, "a note"}
	b := sound.sector()
	other := slices.Concat(b[:508], []byte{b[511], b[510], b[509], b[508]})
	full := sound.sector()
	full[507] = 1
	long := slices.Concat(b[:18], []byte{255}, bytes.Repeat([]byte{'n'}, 489))
	for _, c := range []struct {
		what string
		b    []byte
	}{
		{"no sectors", head{7, 3, 0, ""}.sector()},
		{"too few sectors", head{7, 3, 95, ""}.sector()},
		{"too many sectors", head{7, 3, 513, ""}.sector()},
		{"as many sectors as may be told", head{7, 3, 65535, ""}.sector()},
		{"a note that is too long", head{7, 3, 300, strings.Repeat("n", 65)}.sector()},
		{"a note as long as may be told", head{7, 3, 300, strings.Repeat("n", 255)}.sector()},
		{"a long note without a checksum", append(long, 0, 0, 0, 0)},
		{"another order of the checksum", other},
		{"no checksum", slices.Concat(b[:508], make([]byte, 4))},
		{"a byte behind the note", sealed(full[:508])},
		{"bytes 0 with a checksum", sealed(make([]byte, 508))},
		{"bytes 255", bytes.Repeat([]byte{255}, 512)},
	} {
		for at := range 2 {
			d := newDisk(t, 600)
			lay(t, d, at, c.b)
			wantSpoilt(t, c.what, d)
		}
	}
}

func TestEachOtherByteOfAHeadIsNone(t *testing.T) {
	d := newDisk(t, 98)
	sound := head{7, 3, 96, "a note"}.sector()
	for i := range sound {
		for _, x := range []byte{1, 2, 64, 128, 255} {
			b := bytes.Clone(sound)
			b[i] ^= x
			lay(t, d, i%2, b)
			if l, texts, e := wal.Open(d); l != nil || len(texts) != 0 || e != api.ErrSpoilt {
				t.Fatalf("the byte %d is another one: %v, %q, %v", i, l, texts, e)
			}
		}
		lay(t, d, i%2, make([]byte, api.Sector))
	}
}

// A head of a log that goes beyond the disk counts all the same.
func TestOpenOfALogBeyondTheDisk(t *testing.T) {
	for _, n := range []int{2, 3, 97, 98, 99, 513} {
		d := newDisk(t, n)
		lay(t, d, 0, head{3, 1, 512, ""}.sector(), head{2, 1, 96, ""}.sector())
		wantSpoilt(t, "the greater one beyond the disk", d)
	}
	d := newDisk(t, 1)
	lay(t, d, 0, head{3, 1, 96, ""}.sector())
	wantSpoilt(t, "a head alone", d)
	d = newDisk(t, 98)
	lay(t, d, 0, head{3, 1, 97, ""}.sector())
	wantSpoilt(t, "a sector too many", d)
	lay(t, d, 1, head{4, 1, 96, ""}.sector())
	wantTexts(t, d)
}

func TestOpenErrorsInOrder(t *testing.T) {
	if l, texts, e := wal.Open(nil); l != nil || len(texts) != 0 || e != api.ErrNil {
		t.Errorf("%v, %q, %v", l, texts, e)
	}
	for _, n := range []int{1, 98} {
		d := newDisk(t, n)
		lay(t, d, 0, head{3, 1, 96, ""}.sector())
		d.Crash("")
		if l, texts, e := wal.Open(d); l != nil || len(texts) != 0 || e != api.ErrDead {
			t.Errorf("%v, %q, %v", l, texts, e)
		}
	}
}

// withSheets answers a disk with sheets in their places, behind a head whose first number is that.
func withSheets(t *testing.T, first uint64, l ...sheet.Sheet) *disk.Disk {
	t.Helper()
	d := newDisk(t, 98)
	lay(t, d, 1, head{1, first, 96, ""}.sector())
	for _, s := range l {
		laySheet(t, d, place(s.Seq, 96), s)
	}
	return d
}

func TestTextsOfALog(t *testing.T) {
	type list = []sheet.Sheet
	part := func(seq uint64, text string) sheet.Sheet { return sheet.Sheet{Seq: seq, Text: text} }
	last := func(seq uint64, text string) sheet.Sheet { return sheet.Sheet{Seq: seq, Last: true, Text: text} }
	for _, c := range []struct {
		what  string
		first uint64
		l     list
		want  []string
	}{
		{"no sheets", 1, nil, nil},
		{"one", 1, list{last(1, "a")}, []string{"a"}},
		{"an empty one", 1, list{last(1, "")}, []string{""}},
		{"empty ones", 1, list{last(1, ""), last(2, ""), last(3, "")}, []string{"", "", ""}},
		{"a sheet ahead of the first", 2, list{last(1, "a"), last(2, "b")}, []string{"b"}},
		{"only ahead of the first", 3, list{last(1, "a"), last(2, "b")}, nil},
		{"not from the first on", 1, list{last(2, "b"), last(3, "c")}, nil},
		{"a gap", 1, list{last(1, "a"), last(3, "c")}, []string{"a"}},
		{"a text in pieces", 1, list{part(1, "a"), part(2, "b"), last(3, "c"), last(4, "d")}, []string{"abc", "d"}},
		{"a last one is lacking", 1, list{last(1, "a"), part(2, "b"), part(3, "c")}, []string{"a"}},
		{"a gap within a text", 1, list{last(1, "a"), part(2, "b"), last(4, "d"), last(5, "e")}, []string{"a"}},
		{"places go round", 95, list{last(95, "a"), last(96, "b"), part(97, "c"), last(98, "d")}, []string{"a", "b", "cd"}},
		{"an older sheet stops it", 100, list{last(100, "a"), last(101-96, "old")}, []string{"a"}},
		{"a later sheet stops it", 100, list{last(100, "a"), last(101+96, "later")}, []string{"a"}},
		{"from 0 on", 0, list{last(0, "a"), last(1, "b")}, []string{"a", "b"}},
	} {
		d := withSheets(t, c.first, c.l...)
		if _, texts := opened(t, d); !slices.Equal(texts, c.want) {
			t.Errorf("%s: %q; want %q", c.what, texts, c.want)
		}
	}
}

func TestSheetsInOtherPlacesAreNone(t *testing.T) {
	d := withSheets(t, 1, sheet.Sheet{Seq: 1, Last: true, Text: "a"})
	laySheet(t, d, place(3, 96), sheet.Sheet{Seq: 2, Last: true, Text: "b"})
	wantTexts(t, d, "a")
	l, _ := opened(t, d)
	want(t, "Trim", l.Trim(), api.OK)
	want(t, "Commit", l.Commit("c"), api.OK)
	if s, e := sheet.Take(d.Raw(place(2, 96))); e != api.OK || s.Text != "c" {
		t.Errorf("the next number was not 2: %v, %v", s, e)
	}
}

// The log's own sectors alone are read: a sheet in its place behind them, or on a head's sector, is none.
func TestSheetsBeyondTheLogAreNone(t *testing.T) {
	d := newDisk(t, 300)
	lay(t, d, 1, head{1, 1, 96, ""}.sector())
	laySheet(t, d, 0, sheet.Sheet{Seq: 94, Last: true})
	laySheet(t, d, 98, sheet.Sheet{Seq: 96, Last: true})
	laySheet(t, d, 99, sheet.Sheet{Seq: 1, Last: true})
	wantTexts(t, d)
	wantFormatted(t, "Format", d, 0, head{2, 1, 96, ""})
}

// All sectors of a log full: what is read ends where it began.
func TestOpenOfAFullLog(t *testing.T) {
	for _, first := range []uint64{0, 1, 95, 96, 97, 1000, math.MaxUint64 - 200} {
		var l []sheet.Sheet
		var texts []string
		for i := range uint64(96) {
			l = append(l, sheet.Sheet{Seq: first + i, Last: true, Text: string(rune('0' + i))})
			texts = append(texts, string(rune('0'+i)))
		}
		wantTexts(t, withSheets(t, first, l...), texts...)
	}
}

// Numbers at their end: whatever is answered, it ends.
func TestOpenOfTheGreatestNumbers(t *testing.T) {
	for first := uint64(math.MaxUint64); first > math.MaxUint64-4; first-- {
		var l []sheet.Sheet
		for i := range uint64(96) {
			l = append(l, sheet.Sheet{Seq: first + i, Text: "x"})
		}
		d := withSheets(t, first, l...)
		m, _, e := wal.Open(d)
		want(t, "Open", e, api.OK)
		want(t, "Trim", m.Trim(), api.OK)
		want(t, "Commit", m.Commit(textOf("x", 96)), api.OK)
		want(t, "Commit", m.Commit(""), api.ErrFull)
		want(t, "Format", wal.Format(d, 96, ""), api.OK)
	}
}

func TestOpenSeesWhatWaits(t *testing.T) {
	d := newDisk(t, 98)
	d.Write(0, head{1, 1, 96, "waits"}.sector())
	l, _, e := wal.Open(d)
	if e != api.OK || l.Note() != "waits" || d.Waiting() != 1 {
		t.Errorf("note %q, %v, %d wait", l.Note(), e, d.Waiting())
	}
}

func TestOpenAnswersNewMemory(t *testing.T) {
	d, l := trimmed(t, 98, 96, "")
	want(t, "Commit", l.Commit("a"), api.OK)
	_, texts := opened(t, d)
	texts[0] = "b"
	wantTexts(t, d, "a")
}

func TestNil(t *testing.T) {
	var l *wal.Log
	if l.Note() != "" || l.Sectors() != 0 || l.Left() != 0 {
		t.Errorf("of nil: %q, %d, %d", l.Note(), l.Sectors(), l.Left())
	}
	want(t, "Commit", l.Commit("a"), api.ErrNil)
	want(t, "Commit", l.Commit(textOf("a", 600)), api.ErrNil)
	want(t, "Trim", l.Trim(), api.ErrNil)
}

// Whatever lies on a disk: nothing panics, all ends, and what is open is as the words tell it.
func FuzzOpen(f *testing.F) {
	f.Add(uint64(1), uint64(1), 96, "note", uint64(1), true, "text")
	f.Add(uint64(1<<63), uint64(math.MaxUint64), 97, "", uint64(math.MaxUint64), false, "")
	f.Fuzz(func(t *testing.T, generation, first uint64, sectors int, note string, seq uint64, last bool, text string) {
		d := newDisk(t, 98)
		h := head{generation, first, sectors, note[:min(len(note), 255)]}
		lay(t, d, int(generation%2), h.sector())
		if s, e := sheet.Put(sheet.Sheet{Seq: seq, Last: last, Text: text}); e == api.OK {
			lay(t, d, place(seq, 96), s)
		}
		l, _, e := wal.Open(d)
		if _, ok := logOf(d); !ok || h.sectors > 96 {
			want(t, "Open", e, api.ErrSpoilt)
			return
		}
		opened(t, d)
		want(t, "Trim", l.Trim(), api.OK)
		want(t, "Commit", l.Commit(text[:min(len(text), 497*96)]), api.OK)
	})
}
