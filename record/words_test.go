package record_test

import (
	"encoding/binary"
	"fmt"
	"hash/crc32"
	"math/rand/v2"
	"slices"
	"strings"
	"testing"

	"armarium/api"
	"armarium/record"
)

const least, most = -1 << 63, 1<<63 - 1

// The chapter's words, written anew.

// checksum is that of chapter 2, as the standard library has it.
func checksum(s string) uint32 {
	return crc32.Checksum([]byte(s), crc32.MakeTable(crc32.Castagnoli))
}

// number is a number's lowest so many bytes, the highest one first.
func number(width int, n uint64) string {
	return string(binary.BigEndian.AppendUint64(nil, n)[8-width:])
}

// recordTold are a record's bytes.
func recordTold(h api.Hash, data string) string {
	return string(h[:]) + number(2, uint64(len(data))) + data
}

// recordsTold are the records that begin at a place of bytes, or a false if one of them is none.
func recordsTold(b string, at int) ([]record.Record, bool) {
	if at == len(b) {
		return nil, true
	}
	if len(b)-at < 34 {
		return nil, false
	}
	end := at + 34 + int(b[at+32])*256 + int(b[at+33])
	if end > len(b) || end-at > 2048 {
		return nil, false
	}
	behind, ok := recordsTold(b, end)
	if !ok {
		return nil, false
	}
	first := record.Record{At: at, Hash: api.Hash([]byte(b[at : at+32])), Data: b[at+34 : end]}
	return append([]record.Record{first}, behind...), true
}

// sealed are bytes as a sector's, with bytes 0 and a checksum behind.
func sealed(said string) string {
	said += strings.Repeat("\x00", 508-len(said))
	return said + number(4, uint64(checksum(said)))
}

// headTold is a head's sector.
func headTold(h record.Head) string {
	return sealed("BOX1" + number(2, uint64(h.Box)) + number(2, uint64(h.Used)) + number(4, uint64(h.Sum)))
}

// headOf is the head of a sector, if it is one's.
func headOf(b string) (record.Head, bool) {
	if len(b) != 512 || !strings.HasPrefix(b, "BOX1") || b[508:] != number(4, uint64(checksum(b[:508]))) {
		return record.Head{}, false
	}
	h := record.Head{Box: int(b[4])*256 + int(b[5]), Used: int(b[6])*256 + int(b[7]), Sum: binary.BigEndian.Uint32([]byte(b[8:12]))}
	return h, h.Used <= 2048 && strings.Trim(b[12:508], "\x00") == ""
}

// The tests' helpers.

func text(n int) string { return strings.Repeat("t", n) }

func someText(r *rand.Rand, n int) string {
	b := make([]byte, n)
	for i := range b {
		b[i] = byte(r.Uint32())
	}
	return string(b)
}

func someHash(r *rand.Rand) api.Hash { return api.Hash([]byte(someText(r, 32))) }

// someRecords are records of at most so many bytes, one behind the other, as they stand and as they are put.
func someRecords(r *rand.Rand, room int) ([]record.Record, string) {
	var l []record.Record
	b := ""
	for room-len(b) >= 34 && r.IntN(12) > 0 {
		n := room - len(b) - 34 // the last one fills the room now and then
		if r.IntN(10) > 0 {
			n = r.IntN(min(n, 500) + 1)
		}
		n = min(n, 2014)
		x := record.Record{At: len(b), Data: someText(r, n)}
		if r.IntN(4) > 0 {
			x.Hash = someHash(r)
		}
		l = append(l, x)
		b += recordTold(x.Hash, x.Data)
	}
	return l, b
}

// turned are bytes of which bits are others: of 32 from a bit on, those of the mask. A byte has 8, the lowest first; what is beyond the bytes is left out.
func turned(s string, from int, mask uint32) string {
	b := []byte(s)
	for i := range 32 {
		if at := from + i; mask>>i&1 == 1 && at < len(b)*8 {
			b[at/8] ^= 1 << (at % 8)
		}
	}
	return string(b)
}

// brief tells records in short.
func brief(l []record.Record) string {
	var s []string
	for _, x := range l[:min(len(l), 8)] {
		s = append(s, fmt.Sprintf("%d: %x.. %d bytes %.20q", x.At, x.Hash[:2], len(x.Data), x.Data))
	}
	return fmt.Sprintf("%d records [%s]", len(l), strings.Join(s, "; "))
}

// wantPut fails unless a record's bytes are those of the chapter's words.
func wantPut(t *testing.T, h api.Hash, data string) {
	t.Helper()
	if b, e := record.Put(h, data); e != api.OK || string(b) != recordTold(h, data) {
		t.Fatalf("%x, %d bytes: error %d, bytes %x", h[:2], len(data), e, b)
	}
}

// wantTooMuch fails unless a record of so much data is refused.
func wantTooMuch(t *testing.T, n int) {
	t.Helper()
	if b, e := record.Put(api.Hash{1}, text(n)); e != api.ErrLimit || len(b) != 0 {
		t.Errorf("%d bytes: error %d, %d bytes", n, e, len(b))
	}
}

// wantWalked fails unless just these are the records of the first used bytes, which stay as they are.
func wantWalked(t *testing.T, b string, used int, want []record.Record) {
	t.Helper()
	in := []byte(b)
	if l, e := record.Walk(in, used); e != api.OK || !slices.Equal(l, want) {
		t.Fatalf("%d of %d bytes: error %d, %s; want %s", used, len(b), e, brief(l), brief(want))
	}
	if string(in) != b {
		t.Fatalf("%d of %d bytes: what was walked became other bytes", used, len(b))
	}
}

// wantNoRecords fails unless the first used bytes are those of no records.
func wantNoRecords(t *testing.T, why, b string, used int) {
	t.Helper()
	if l, e := record.Walk([]byte(b), used); e != api.ErrForm || len(l) != 0 {
		t.Errorf("%s: %d of %d bytes: error %d, %s", why, used, len(b), e, brief(l))
	}
}

// wantAsTold fails unless the first used bytes are walked as the chapter's words walk them. It says whether they are records.
func wantAsTold(t *testing.T, b string, used int) bool {
	t.Helper()
	l, ok := recordsTold(b[:used], 0)
	if ok {
		wantWalked(t, b, used, l)
	} else {
		wantNoRecords(t, "no records", b, used)
	}
	return ok
}

// wantSealed fails unless bytes are sealed as the chapter's words seal them, and the head is taken again.
func wantSealed(t *testing.T, box int, records string) {
	t.Helper()
	h := record.Head{Box: box, Used: len(records), Sum: checksum(records)}
	in := []byte(records)
	if b, e := record.Seal(box, in); e != api.OK || string(b) != headTold(h) {
		t.Fatalf("box %d, %d bytes: error %d, %x", box, len(records), e, b)
	}
	if string(in) != records {
		t.Fatalf("box %d, %d bytes: what was sealed became other bytes", box, len(records))
	}
	wantTaken(t, headTold(h), h)
}

// wantNotSealed fails unless Seal refuses a number, or bytes.
func wantNotSealed(t *testing.T, box, bytes int) {
	t.Helper()
	if b, e := record.Seal(box, make([]byte, bytes)); e != api.ErrArg || len(b) != 0 {
		t.Errorf("box %d, %d bytes: error %d, %x", box, bytes, e, b)
	}
}

// wantTaken fails unless a sector is just that head's.
func wantTaken(t *testing.T, b string, want record.Head) {
	t.Helper()
	in := []byte(b)
	if h, e := record.Take(in); e != api.OK || h != want {
		t.Fatalf("%x..: error %d, head %v; want %v", b[:16], e, h, want)
	}
	if string(in) != b {
		t.Fatalf("%x..: what was taken became other bytes", b[:16])
	}
}

// wantNoHead fails unless a sector is none's.
func wantNoHead(t *testing.T, why, b string) {
	t.Helper()
	if h, e := record.Take([]byte(b)); e != api.ErrForm || h != (record.Head{}) {
		t.Errorf("%s: %d bytes %x..: error %d, head %v", why, len(b), b[:min(len(b), 16)], e, h)
	}
}
