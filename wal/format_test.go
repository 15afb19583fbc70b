package wal_test

import (
	"bytes"
	"math"
	"strings"
	"testing"

	"armarium/api"
	"armarium/disk"
	"armarium/sheet"
	"armarium/wal"
)

// P6.1

func TestNoteRoom(t *testing.T) {
	if wal.NoteRoom != 64 {
		t.Error(wal.NoteRoom)
	}
}

func TestFormatByteByByte(t *testing.T) {
	d := newDisk(t, 600)
	wantWritten(t, "Format", d, func() { want(t, "Format", wal.Format(d, 258, "a note"), api.OK) }, 1)
	b := d.Raw(1)
	said := "\x00\x00\x00\x00\x00\x00\x00\x01" + "\x00\x00\x00\x00\x00\x00\x00\x01" + "\x01\x02" + "\x06a note"
	if string(b[:508]) != said+strings.Repeat("\x00", 508-len(said)) {
		t.Errorf("the head is % x", b)
	}
	if !bytes.Equal(b, sealed(b[:508])) {
		t.Errorf("the checksum is % x", b[508:])
	}
}

// wantFormatted fails unless Format writes just that head to that sector.
func wantFormatted(t *testing.T, what string, d *disk.Disk, at int, h head) {
	t.Helper()
	wantWritten(t, what, d, func() { want(t, what, wal.Format(d, h.sectors, h.note), api.OK) }, at)
	if !bytes.Equal(d.Raw(at), h.sector()) {
		got, ok := headOf(d.Raw(at))
		t.Errorf("%s: the sector %d has %+v, %v; want %+v", what, at, got, ok, h)
	}
	wantTexts(t, d)
}

func TestFormatAgainAndAgain(t *testing.T) {
	d := newDisk(t, 200)
	for i, note := range []string{"", "1", "two", "", "four", "five", "6"} {
		wantFormatted(t, "Format", d, (i+1)%2, head{uint64(i) + 1, 1, 96 + i, note})
	}
}

func TestFormatTakesTheHeadThatDoesNotCount(t *testing.T) {
	none := make([]byte, api.Sector)
	of := func(generation uint64) []byte { return head{generation, 3, 96, "old"}.sector() }
	broken := of(99)
	broken[20] ^= 4
	for _, c := range []struct {
		what       string
		zero, one  []byte
		at         int
		generation uint64
	}{
		{"no head", none, none, 1, 1},
		{"broken ones", broken, broken, 1, 1},
		{"the sector 0's alone", of(7), none, 1, 8},
		{"the sector 1's alone", none, of(7), 0, 8},
		{"a broken one of a greater generation on 1", of(7), broken, 1, 8},
		{"a broken one of a greater generation on 0", broken, of(7), 0, 8},
		{"the sector 0's is greater", of(8), of(7), 1, 9},
		{"the sector 1's is greater", of(7), of(8), 0, 9},
		{"two alike", of(7), of(7), 1, 8},
		{"a generation 0 on 0", of(0), none, 1, 1},
		{"a generation 0 on 1", none, of(0), 0, 1},
		{"great ones", of(math.MaxUint64 - 2), of(math.MaxUint64 - 1), 0, math.MaxUint64},
		{"a great one and a small one", of(1 << 63), of(5), 1, 1<<63 + 1},
	} {
		d := newDisk(t, 98)
		lay(t, d, 0, c.zero, c.one)
		wantFormatted(t, c.what, d, c.at, head{c.generation, 1, 96, "new"})
	}
}

// Heads that go beyond the disk are heads.
func TestFormatOfADiskWithALogThatIsTooGreat(t *testing.T) {
	d := newDisk(t, 98)
	lay(t, d, 0, head{5, 9, 512, "great"}.sector(), head{4, 9, 96, "old"}.sector())
	wantFormatted(t, "Format", d, 1, head{6, 1, 96, ""})
}

func TestFormatGoesOnBehindAllSheets(t *testing.T) {
	d, l := trimmed(t, 120, 96, "")
	want(t, "Commit", l.Commit(textOf("a", 5)), api.OK)
	want(t, "Commit", l.Commit("b"), api.OK)
	wantTexts(t, d, textOf("a", 5), "b")
	wantFormatted(t, "Format", d, 1, head{3, 7, 96, "again"})
	l, _ = opened(t, d)
	want(t, "Trim", l.Trim(), api.OK)
	want(t, "Commit", l.Commit("c"), api.OK)
	wantFormatted(t, "Format", d, 1, head{5, 8, 96, ""})
}

// Only what lies in its place counts: that of the log that is to be, not of the one that was.
func TestFormatLooksAtPlaces(t *testing.T) {
	d := newDisk(t, 120)
	lay(t, d, 1, head{1, 1000, 97, ""}.sector())
	laySheet(t, d, place(50, 96), sheet.Sheet{Seq: 50})
	laySheet(t, d, place(1005, 97), sheet.Sheet{Seq: 1005, Last: true})
	laySheet(t, d, place(300, 96)+1, sheet.Sheet{Seq: 300, Last: true})
	laySheet(t, d, 2+96, sheet.Sheet{Seq: 96 * 50, Last: true})
	wantFormatted(t, "of 96 sectors", d, 0, head{2, 51, 96, ""})
	wantFormatted(t, "of 97 sectors", d, 1, head{3, 1006, 97, ""})
}

// A first number of an old head plays no part, if no sheet has it.
func TestFormatBeginsFromOneOn(t *testing.T) {
	d := newDisk(t, 98)
	lay(t, d, 0, head{5, 700, 96, ""}.sector())
	wantFormatted(t, "Format", d, 1, head{6, 1, 96, ""})
	laySheet(t, d, 2, sheet.Sheet{Seq: 0, Last: true})
	wantFormatted(t, "a sheet of the number 0", d, 0, head{7, 1, 96, ""})
}

func TestFormatAtTheEdges(t *testing.T) {
	for _, c := range []struct {
		disk, sectors, note int
		want                api.Errno
	}{
		{98, 96, 0, api.OK}, {98, 96, 64, api.OK}, {97, 96, 0, api.ErrArg}, {98, 97, 0, api.ErrArg}, {99, 97, 1, api.OK},
		{98, 95, 0, api.ErrArg}, {98, 0, 0, api.ErrArg}, {98, -1, 0, api.ErrArg}, {98, math.MinInt, 0, api.ErrArg}, {98, math.MaxInt, 0, api.ErrArg},
		{98, 96, 65, api.ErrArg}, {98, 96, 255, api.ErrArg}, {98, 96, 256, api.ErrArg}, {98, 96, 1 << 20, api.ErrArg},
		{514, 512, 64, api.OK}, {513, 512, 0, api.ErrArg}, {4096, 512, 0, api.OK}, {4096, 513, 0, api.ErrArg}, {4096, 4094, 0, api.ErrArg},
		{1, 96, 0, api.ErrArg}, {2, 96, 0, api.ErrArg}, {3, 1, 0, api.ErrArg},
	} {
		d := newDisk(t, c.disk)
		note := strings.Repeat("n", c.note)
		if c.want == api.OK {
			wantFormatted(t, "Format", d, 1, head{1, 1, c.sectors, note})
			continue
		}
		wantUntouched(t, "Format", d, func() {
			if e := wal.Format(d, c.sectors, note); e != c.want {
				t.Errorf("%d sectors of %d, a note of %d bytes: %v; want %v", c.sectors, c.disk, c.note, e, c.want)
			}
		})
	}
}

func TestFormatErrorsInOrder(t *testing.T) {
	want(t, "no disk", wal.Format(nil, 96, ""), api.ErrNil)
	want(t, "no disk, wrong all", wal.Format(nil, 0, strings.Repeat("n", 65)), api.ErrNil)
	d := newDisk(t, 98)
	d.Crash("")
	want(t, "no power", wal.Format(d, 96, ""), api.ErrDead)
	want(t, "no power, too few", wal.Format(d, 95, ""), api.ErrArg)
	want(t, "no power, too many", wal.Format(d, 97, ""), api.ErrArg)
	want(t, "no power, a long note", wal.Format(d, 96, strings.Repeat("n", 65)), api.ErrArg)
	if sectorsOf(d) != strings.Repeat("\x00", 98*512) {
		t.Error("something was written")
	}
}

func TestFormatIsCut(t *testing.T) {
	for acts, keeps := range []string{"\xff", "\x00", "\x01"} {
		d, l := trimmed(t, 98, 96, "old")
		want(t, "Commit", l.Commit("kept"), api.OK)
		d.Fuse(min(acts, 1), keeps)
		want(t, "Format", wal.Format(d, 96, "new"), api.ErrDead)
		d.Start()
		if acts < 2 {
			wantTexts(t, d, "kept")
			continue
		}
		l, texts := opened(t, d)
		if l.Note() != "new" || len(texts) != 0 {
			t.Errorf("note %q, texts %q", l.Note(), texts)
		}
	}
}
