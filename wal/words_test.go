package wal_test

import (
	"bytes"
	"hash/crc32"
	"slices"
	"strings"
	"testing"

	"armarium/api"
	"armarium/disk"
	"armarium/sheet"
	"armarium/wal"
)

// A head is a log's head as the chapter's words tell it.
type head struct {
	generation, first uint64
	sectors           int
	note              string
}

// number is a number of so many bytes, the highest one first.
func number(width int, n uint64) []byte {
	b := make([]byte, width)
	for i := range b {
		b[i] = byte(n >> (8 * (width - 1 - i)))
	}
	return b
}

// sector is a head's sector, also of a head that may not be, as far as it goes in.
func (h head) sector() []byte {
	b := append(number(8, h.generation), number(8, h.first)...)
	b = append(b, number(2, uint64(h.sectors))...)
	b = append(b, byte(len(h.note)))
	b = append(b, h.note...)
	return sealed(append(b, make([]byte, 508-len(b))...))
}

// sealed is bytes with their checksum behind them.
func sealed(b []byte) []byte {
	sum := crc32.Checksum(b, crc32.MakeTable(crc32.Castagnoli))
	return append(bytes.Clone(b), number(4, uint64(sum))...)
}

// headOf is the head of a sector, if it is one's.
func headOf(b []byte) (head, bool) {
	var n [3]uint64
	for i, x := range b[:18] {
		n[i/8] = n[i/8]<<8 | uint64(x)
	}
	h := head{n[0], n[1], int(n[2]), string(b[19 : 19+int(b[18])])}
	ok := h.sectors >= 96 && h.sectors <= 512 && len(h.note) <= 64 && bytes.Equal(b, h.sector())
	return h, ok
}

// A log is what a disk says of its log.
type log struct {
	head
	at    int // the sector of the head that counts
	texts []string
	next  uint64
}

// logOf reads a disk as the chapter's words tell it; false, if no sector is a head's.
func logOf(d *disk.Disk) (log, bool) {
	var l log
	found := false
	for at := range 2 {
		if h, ok := headOf(d.Raw(at)); ok && (!found || h.generation > l.generation) {
			l.head, l.at, found = h, at, true
		}
	}
	if !found {
		return log{}, false
	}
	l.next = nextOf(d, l.sectors, l.first)
	text := ""
	for seq := l.first; ; seq++ {
		s, e := sheet.Take(d.Raw(place(seq, l.sectors)))
		if e != api.OK || s.Seq != seq {
			return l, true
		}
		text += s.Text
		if s.Last {
			l.texts, text = append(l.texts, text), ""
		}
	}
}

func place(seq uint64, sectors int) int { return 2 + int(seq%uint64(sectors)) }

// nextOf is one more than the greatest number of the sheets that lie in their places, but the first one at least.
func nextOf(d *disk.Disk, sectors int, first uint64) uint64 {
	next := first
	for i := range sectors {
		if s, e := sheet.Take(d.Raw(2 + i)); e == api.OK && int(s.Seq%uint64(sectors)) == i && s.Seq >= next {
			next = s.Seq + 1
		}
	}
	return next
}

// The tests' helpers.

func newDisk(t *testing.T, sectors int) *disk.Disk {
	t.Helper()
	d, e := disk.New(sectors)
	if e != api.OK {
		t.Fatal(e)
	}
	return d
}

// lay writes sectors to a disk, one behind the other.
func lay(t *testing.T, d *disk.Disk, at int, sectors ...[]byte) {
	t.Helper()
	for i, b := range sectors {
		if e := d.Write(at+i, b); e != api.OK {
			t.Fatal(e)
		}
	}
	if e := d.Flush(); e != api.OK {
		t.Fatal(e)
	}
}

// laySheet writes a sheet to a sector, also to one that is not its place.
func laySheet(t *testing.T, d *disk.Disk, at int, s sheet.Sheet) {
	t.Helper()
	b, e := sheet.Put(s)
	if e != api.OK {
		t.Fatal(e)
	}
	lay(t, d, at, b)
}

func want(t *testing.T, what string, got, want api.Errno) {
	t.Helper()
	if got != want {
		t.Fatalf("%s: %v; want %v", what, got, want)
	}
}

// sectorsOf are all sectors of a disk, one behind the other.
func sectorsOf(d *disk.Disk) string {
	var all strings.Builder
	for at := range d.Len() {
		all.Write(d.Raw(at))
	}
	return all.String()
}

// wantUntouched fails unless a call left the disk as it was, without any act.
func wantUntouched(t *testing.T, what string, d *disk.Disk, call func()) {
	t.Helper()
	was, acts, waiting := sectorsOf(d), d.Acts(), d.Waiting()
	call()
	if sectorsOf(d) != was || d.Acts() != acts || d.Waiting() != waiting {
		t.Errorf("%s: the disk was touched: %d acts, %d wait", what, d.Acts()-acts, d.Waiting())
	}
}

// wantWritten fails unless a call wrote just these sectors, in as many acts, and a flush, and nothing waits.
func wantWritten(t *testing.T, what string, d *disk.Disk, call func(), at ...int) {
	t.Helper()
	was, acts := d.Copy(), d.Acts()
	call()
	if got := d.Acts() - acts; got != uint64(len(at)+1) || d.Waiting() != 0 {
		t.Errorf("%s: %d acts, %d wait; want %d, 0", what, got, d.Waiting(), len(at)+1)
	}
	for i := range d.Len() {
		if same := bytes.Equal(d.Raw(i), was.Raw(i)); same == slices.Contains(at, i) {
			t.Errorf("%s: the sector %d: the same is %v", what, i, same)
		}
	}
}

// opened answers a disk's log, and fails unless it is as the words tell it, and nothing was written.
func opened(t *testing.T, d *disk.Disk) (*wal.Log, []string) {
	t.Helper()
	words, ok := logOf(d)
	if !ok {
		t.Fatal("no sector is a head's")
	}
	var l *wal.Log
	var texts []string
	wantUntouched(t, "Open", d, func() {
		var e api.Errno
		l, texts, e = wal.Open(d)
		want(t, "Open", e, api.OK)
	})
	if !slices.Equal(texts, words.texts) {
		t.Fatalf("the texts are %.40q; want %.40q", texts, words.texts)
	}
	if l.Note() != words.note || l.Sectors() != words.sectors || l.Left() != 0 {
		t.Fatalf("note %q, %d sectors, %d left; want %q, %d, 0", l.Note(), l.Sectors(), l.Left(), words.note, words.sectors)
	}
	return l, texts
}

// wantTexts fails unless a disk's log has just these texts.
func wantTexts(t *testing.T, d *disk.Disk, texts ...string) {
	t.Helper()
	if _, got := opened(t, d); !slices.Equal(got, texts) {
		t.Fatalf("the texts are %.40q; want %.40q", got, texts)
	}
}

// trimmed answers a new disk, and its log, opened and trimmed once.
func trimmed(t *testing.T, sectors, logSectors int, note string) (*disk.Disk, *wal.Log) {
	t.Helper()
	d := newDisk(t, sectors)
	want(t, "Format", wal.Format(d, logSectors, note), api.OK)
	l, _ := opened(t, d)
	want(t, "Trim", l.Trim(), api.OK)
	return d, l
}

// textOf is a text of so many sheets, of which none is like another one.
func textOf(name string, sheets int) string {
	var text strings.Builder
	for i := range sheets {
		piece := name + string(rune('A'+i%26))
		text.WriteString(strings.Repeat(piece, 497/len(piece)+1)[:497])
	}
	return text.String()
}
