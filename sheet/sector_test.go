package sheet_test

import (
	"bytes"
	"hash/crc32"
	"math/rand/v2"
	"strings"
	"testing"

	"armarium/api"
	"armarium/sheet"
)

const most = 1<<64 - 1

// sector is a sheet's sector as the chapter's words tell it.
func sector(s sheet.Sheet) []byte {
	last := byte(1)
	if s.Last {
		last = 2
	}
	return sectorWith(s.Seq, last, len(s.Text), s.Text)
}

// sectorWith is a sector whose checksum is right, whatever else it says.
func sectorWith(seq uint64, last byte, n int, rest string) []byte {
	var b []byte
	for i := range 8 {
		b = append(b, byte(seq>>(56-8*i)))
	}
	b = append(b, last, byte(n/256), byte(n%256))
	b = append(b, rest...)
	for len(b) < 508 {
		b = append(b, 0)
	}
	return sealed(b[:508])
}

// sealed is bytes with their checksum behind them, the lowest byte first.
func sealed(b []byte) []byte {
	sum := checksum(b)
	return append(bytes.Clone(b), byte(sum), byte(sum>>8), byte(sum>>16), byte(sum>>24))
}

func checksum(b []byte) uint32 {
	return crc32.Checksum(b, crc32.MakeTable(crc32.Castagnoli))
}

func someText(r *rand.Rand, n int) string {
	b := make([]byte, n)
	for i := range b {
		b[i] = byte(r.Uint32())
	}
	return string(b)
}

// someSheet is any sheet that has a sector.
func someSheet(r *rand.Rand) sheet.Sheet {
	return sheet.Sheet{Seq: r.Uint64() >> r.IntN(64), Last: r.IntN(2) == 0, Text: someText(r, r.IntN(498))}
}

// edges are sheets at the edges of what a sheet may be.
func edges() []sheet.Sheet {
	var l []sheet.Sheet
	for _, seq := range []uint64{0, 1, 2, 7, 255, 256, 1<<32 - 1, 1 << 32, 1 << 63, most - 1, most} {
		for _, n := range []int{0, 1, 2, 254, 255, 256, 257, 495, 496, 497} {
			for _, text := range []string{strings.Repeat("\x00", n), strings.Repeat("\xff", n), strings.Repeat("abcdefg", 80)[:n]} {
				l = append(l, sheet.Sheet{Seq: seq, Text: text}, sheet.Sheet{Seq: seq, Last: true, Text: text})
			}
		}
	}
	return l
}

// wantSector fails unless that is the sheet's sector, and the sheet is taken of it.
func wantSector(t *testing.T, s sheet.Sheet) {
	t.Helper()
	b, e := sheet.Put(s)
	if e != api.OK || !bytes.Equal(b, sector(s)) {
		t.Fatalf("%d, %v, %d bytes: put % x, error %d", s.Seq, s.Last, len(s.Text), b, e)
	}
	if got, e := sheet.Take(b); e != api.OK || got != s {
		t.Fatalf("%d, %v, %d bytes: took %v, error %d", s.Seq, s.Last, len(s.Text), got, e)
	}
}

// wantNone fails unless the sector is none's.
func wantNone(t *testing.T, what string, b []byte) {
	t.Helper()
	if s, e := sheet.Take(b); e != api.ErrForm || s != (sheet.Sheet{}) {
		t.Fatalf("%s: took %v, error %d", what, s, e)
	}
}

// P5.1

func TestRoom(t *testing.T) {
	if sheet.Room != 497 {
		t.Error(sheet.Room)
	}
}

func TestSectorByteByByte(t *testing.T) {
	b, e := sheet.Put(sheet.Sheet{Seq: 0x0102030405060708, Last: true, Text: strings.Repeat("z", 258)})
	if e != api.OK || len(b) != 512 {
		t.Fatalf("%d bytes, error %d", len(b), e)
	}
	if head := "\x01\x02\x03\x04\x05\x06\x07\x08\x02\x01\x02"; string(b[:11]) != head {
		t.Errorf("the head is % x", b[:11])
	}
	if string(b[11:269]) != strings.Repeat("z", 258) {
		t.Errorf("the text is %q", b[11:269])
	}
	if string(b[269:508]) != strings.Repeat("\x00", 239) {
		t.Errorf("behind the text stands % x", b[269:508])
	}
	sum := checksum(b[:508])
	if string(b[508:]) != string([]byte{byte(sum), byte(sum >> 8), byte(sum >> 16), byte(sum >> 24)}) {
		t.Errorf("the checksum %08x stands as % x", sum, b[508:])
	}
}

func TestSheetsAtTheEdges(t *testing.T) {
	for _, s := range edges() {
		wantSector(t, s)
	}
}

func TestSheetsOfEachLength(t *testing.T) {
	r := rand.New(rand.NewPCG(5, 1))
	for n := range 498 {
		wantSector(t, sheet.Sheet{Seq: uint64(n), Last: n%2 == 0, Text: someText(r, n)})
	}
}

func TestSomeSheets(t *testing.T) {
	r := rand.New(rand.NewPCG(5, 2))
	for range 2000 {
		wantSector(t, someSheet(r))
	}
}

func TestPutOfTooMuchText(t *testing.T) {
	for _, n := range []int{498, 499, 508, 512, 513, 994, 65535, 65536, 65537, 65536 + 497, 1 << 20} {
		for _, last := range []bool{false, true} {
			if b, e := sheet.Put(sheet.Sheet{Seq: 1, Last: last, Text: strings.Repeat("a", n)}); e != api.ErrLimit || len(b) != 0 {
				t.Errorf("%d bytes: put % x, error %d", n, b, e)
			}
		}
	}
}

func TestPutAnswersNewMemory(t *testing.T) {
	s := sheet.Sheet{Seq: 3, Text: "hi"}
	b, _ := sheet.Put(s)
	clear(b[:cap(b)])
	wantSector(t, s)
}

func TestTakeKeepsAndChangesNothing(t *testing.T) {
	want := sheet.Sheet{Seq: 3, Last: true, Text: strings.Repeat("keep", 100)}
	b := sector(want)
	s, e := sheet.Take(b)
	if e != api.OK || !bytes.Equal(b, sector(want)) {
		t.Fatalf("error %d; the sector became % x", e, b)
	}
	clear(b)
	if s != want {
		t.Errorf("the sheet became %v", s)
	}
	broken := sector(want)
	broken[20] ^= 1
	kept := bytes.Clone(broken)
	sheet.Take(broken)
	if !bytes.Equal(broken, kept) {
		t.Error("a sector that is none's was changed")
	}
}

// What lies behind a sector in the same memory is the caller's.
func TestTakeLooksAtTheSectorAlone(t *testing.T) {
	s := sheet.Sheet{Seq: 9, Text: strings.Repeat("r", 497)}
	b := append(sector(s), "behind it"...)
	if got, e := sheet.Take(b[:512]); e != api.OK || got != s {
		t.Errorf("took %v, error %d", got, e)
	}
	if string(b[512:]) != "behind it" {
		t.Errorf("behind it stands %q", b[512:])
	}
}

func TestTakeOfAnotherNumberOfBytes(t *testing.T) {
	wantNone(t, "nil", nil)
	wantNone(t, "no bytes", []byte{})
	for _, s := range []sheet.Sheet{{}, {Seq: 3, Last: true, Text: "hi"}, {Text: strings.Repeat("a", 497)}} {
		b := sector(s)
		for n := range 512 {
			wantNone(t, "a piece from the start", b[:n])
			wantNone(t, "a piece to the end", b[512-n:])
		}
		wantNone(t, "a byte 0 more", append(bytes.Clone(b), 0))
		wantNone(t, "a byte 0 ahead", append([]byte{0}, b...))
		wantNone(t, "two sectors", append(bytes.Clone(b), b...))
	}
}

// A text longer or shorter than a sector's, with a checksum that is right, is no sector either.
func TestTakeOfOtherLengthsThatAreSealed(t *testing.T) {
	for _, n := range []int{0, 10, 11, 12, 507, 509, 1020} {
		b := make([]byte, n)
		if n > 8 {
			b[8] = 1
		}
		wantNone(t, "sealed", sealed(b))
	}
}

func TestTakeOfOtherMarks(t *testing.T) {
	for mark := range 256 {
		b := sectorWith(7, byte(mark), 2, "hi")
		if mark != 1 && mark != 2 {
			wantNone(t, "a mark that is none", b)
			continue
		}
		want := sheet.Sheet{Seq: 7, Last: mark == 2, Text: "hi"}
		if s, e := sheet.Take(b); e != api.OK || s != want {
			t.Errorf("mark %d: took %v, error %d", mark, s, e)
		}
	}
}

func TestTakeOfMoreTextThanThereIsRoom(t *testing.T) {
	for n := 498; n < 1<<16; n++ {
		if n > 600 && n%97 != 0 && n < 1<<16-3 {
			continue
		}
		wantNone(t, "more text than room", sectorWith(7, 2, n, strings.Repeat("a", 497)))
	}
}

func TestTakeOfBytesBehindTheText(t *testing.T) {
	for n := range 497 {
		text := strings.Repeat("a", n)
		wantNone(t, "a byte next to the text", sectorWith(7, 1, n, text+"\x01"))
		wantNone(t, "a byte ahead of the checksum", sectorWith(7, 2, n, text+strings.Repeat("\x00", 496-n)+"\x80"))
	}
}

func TestTakeOfOtherChecksums(t *testing.T) {
	for _, s := range edges() {
		b := sector(s)
		slow := bytes.Clone(b)
		slow[508], slow[509], slow[510], slow[511] = b[511], b[510], b[509], b[508]
		if !bytes.Equal(slow, b) {
			wantNone(t, "the highest byte first", slow)
		}
		for i := 508; i < 512; i++ {
			b[i] = ^b[i]
		}
		wantNone(t, "all bits turned", b)
	}
}

// P5.3

func TestBytesZeroAloneAreNone(t *testing.T) {
	wantNone(t, "bytes 0", make([]byte, 512))
	wantNone(t, "bytes 0, sealed", sealed(make([]byte, 508)))
}

func TestEachOtherByteIsNone(t *testing.T) {
	b := sector(sheet.Sheet{Seq: 1, Text: "some text"})
	for i := range b {
		was := b[i]
		for x := range 256 {
			if b[i] = byte(x); b[i] != was {
				wantNone(t, "one byte is another one", b)
			}
		}
		b[i] = was
	}
}

// turned is a sector in which bits are others: of 32 from a bit on, those of the mask. A byte has 8, the lowest first.
func turned(b []byte, from int, mask uint32) []byte {
	b = bytes.Clone(b)
	for i := range 32 {
		if mask>>i&1 == 1 {
			b[(from+i)/8] ^= 1 << ((from + i) % 8)
		}
	}
	return b
}

func TestBitsSideBySideThatAreOthers(t *testing.T) {
	r := rand.New(rand.NewPCG(5, 3))
	sheets := []sheet.Sheet{{}, {Last: true}, {Seq: 1, Text: "hi"}, {Seq: most, Last: true, Text: strings.Repeat("\xff", 497)}, someSheet(r), someSheet(r)}
	for _, s := range sheets {
		b := sector(s)
		for from := range 512*8 - 31 {
			for _, mask := range []uint32{1, 1 << 31, 1<<31 | 1, 1<<32 - 1, r.Uint32() | 1} {
				wantNone(t, "bits are others", turned(b, from, mask))
			}
		}
	}
}

// A sector that was written over another one in part is none's.
func TestHalfOfOneSectorAndHalfOfAnother(t *testing.T) {
	was := sector(sheet.Sheet{Seq: 6, Last: true, Text: strings.Repeat("was", 160)})
	is := sector(sheet.Sheet{Seq: 7, Last: true, Text: strings.Repeat("is!", 160)})
	for n := 8; n < 512; n++ {
		wantNone(t, "half of it", append(bytes.Clone(is[:n]), was[n:]...))
	}
}

func FuzzTake(f *testing.F) {
	f.Add([]byte{})
	f.Add(make([]byte, 512))
	f.Add(sector(sheet.Sheet{Seq: 7, Last: true, Text: "text"}))
	f.Fuzz(func(t *testing.T, b []byte) {
		took(t, b)
		if len(b) >= 508 { // the checksum made good, so that the rest is looked at
			took(t, sealed(b[:508]))
		}
	})
}

// took fails unless bytes are none's sector, or just that of the sheet that is taken of them.
func took(t *testing.T, b []byte) {
	t.Helper()
	s, e := sheet.Take(b)
	if e == api.OK {
		wantSector(t, s)
		if !bytes.Equal(b, sector(s)) {
			t.Fatalf("took %v of % x", s, b)
		}
		return
	}
	wantNone(t, "none's", b)
}
