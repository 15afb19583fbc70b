package record_test

import (
	"bytes"
	"math/rand/v2"
	"strings"
	"testing"

	"armarium/api"
	"armarium/record"
)

// P13.2

func TestSealPutsWhatTheChapterTells(t *testing.T) {
	b, e := record.Seal(258, []byte("123456789"))
	want := "BOX1" + "\x01\x02" + "\x00\x09" + "\xe3\x06\x92\x83" + strings.Repeat("\x00", 496)
	if e != api.OK || len(b) != 512 || string(b[:508]) != want {
		t.Fatalf("error %d, % x", e, b)
	}
	if sum := checksum(want); b[508] != byte(sum>>24) || b[509] != byte(sum>>16) || b[510] != byte(sum>>8) || b[511] != byte(sum) {
		t.Errorf("the checksum % x; want %x", b[508:], sum)
	}
	wantTaken(t, string(b), record.Head{Box: 258, Used: 9, Sum: 0xe3069283})
}

func TestSealOfAllNumbersOfBoxes(t *testing.T) {
	for box := range 1 << 16 {
		if box > 600 && box%97 != 0 && box < 1<<16-3 {
			continue
		}
		wantSealed(t, box, "")
		wantSealed(t, box, recordTold(api.Hash{1}, "ab"))
	}
}

func TestSealOfAllLengths(t *testing.T) {
	r := rand.New(rand.NewPCG(13, 3))
	for n := range 2049 {
		wantSealed(t, 199, text(n))
		wantSealed(t, 0, strings.Repeat("\x00", n))
		wantSealed(t, 65535, someText(r, n))
	}
}

func TestSealOfNil(t *testing.T) {
	if b, e := record.Seal(7, nil); e != api.OK || string(b) != headTold(record.Head{Box: 7}) {
		t.Errorf("error %d, % x", e, b)
	}
}

func TestSealOfNumbersThatMayNotBe(t *testing.T) {
	for _, box := range []int{least, least + 1, -1 << 32, -65536, -65535, -2, -1, 65536, 65537, 65536 + 199, 1 << 17, 1 << 32, 1<<32 + 1, most - 1, most} {
		wantNotSealed(t, box, 0)
		wantNotSealed(t, box, 36)
		wantNotSealed(t, box, 2049)
	}
}

func TestSealOfMoreBytesThanABoxHas(t *testing.T) {
	for _, n := range []int{2049, 2050, 4096, 65535, 65536, 65537, 65536 + 36, 65536 + 2048, 1 << 20} {
		wantNotSealed(t, 0, n)
		wantNotSealed(t, 65535, n)
	}
}

func TestSealAnswersNewMemory(t *testing.T) {
	records := []byte(recordTold(api.Hash{1}, "ab"))
	a, _ := record.Seal(3, records)
	clear(a[:cap(a)])
	wantSealed(t, 3, string(records))
	b, _ := record.Seal(3, records)
	was := bytes.Clone(b)
	clear(records)
	if !bytes.Equal(b, was) {
		t.Error("a sector changed with the records")
	}
}

func TestTakeOfAnyHeads(t *testing.T) {
	r := rand.New(rand.NewPCG(13, 4))
	for range 5000 {
		h := record.Head{Box: r.IntN(1 << 16), Used: r.IntN(2049), Sum: r.Uint32()}
		wantTaken(t, headTold(h), h)
	}
	for _, h := range []record.Head{{}, {Box: 65535}, {Used: 2048}, {Sum: 1<<32 - 1}, {Box: 65535, Used: 2048, Sum: 1<<32 - 1}} {
		wantTaken(t, headTold(h), h)
	}
}

func TestTakeOfOtherLengths(t *testing.T) {
	b := headTold(record.Head{Box: 7, Used: 36, Sum: 5})
	if h, e := record.Take(nil); e != api.ErrForm || h != (record.Head{}) {
		t.Errorf("nil: error %d, head %v", e, h)
	}
	for n := range 512 {
		wantNoHead(t, "too few bytes", b[:n])
	}
	for _, n := range []int{1, 2, 4, 511, 512, 513, 65536 - 512, 65536} {
		wantNoHead(t, "too many bytes", b+strings.Repeat("\x00", n))
		wantNoHead(t, "too many bytes, ahead", strings.Repeat("\x00", n)+b)
	}
	wantNoHead(t, "two heads", b+b)
	short := "BOX1" + number(2, 7) + number(2, 36) + number(4, 5)
	wantNoHead(t, "no bytes 0 between", short+number(4, uint64(checksum(short))))
	long := short + strings.Repeat("\x00", 497)
	wantNoHead(t, "a byte 0 too many", long+number(4, uint64(checksum(long))))
}

func TestTakeOfOtherMarks(t *testing.T) {
	for _, mark := range []string{"BOX0", "BOX2", "box1", "Box1", "BOX\x01", "\x00\x00\x00\x00", "1XOB", "OX1B", "BOX ", "COX1", "BAX1", "BOY1"} {
		wantNoHead(t, "another mark", sealed(mark+number(2, 7)+number(2, 36)+number(4, 5)))
	}
}

func TestTakeOfMoreBytesThanABoxHas(t *testing.T) {
	for used := 2049; used < 1<<16; used++ {
		if used > 2100 && used%61 != 0 && used < 1<<16-3 {
			continue
		}
		wantNoHead(t, "too many used", headTold(record.Head{Box: 7, Used: used, Sum: 5}))
	}
}

func TestTakeOfBytesBehindTheHead(t *testing.T) {
	said := headTold(record.Head{Box: 7, Used: 36, Sum: 5})
	for at := 12; at < 508; at++ {
		for _, x := range []string{"\x01", "\x80", "\xff"} {
			wantNoHead(t, "a byte behind that is not 0", sealed(said[:at]+x+said[at+1:508]))
		}
	}
}

func TestTakeOfOtherChecksums(t *testing.T) {
	b := headTold(record.Head{Box: 7, Used: 36, Sum: 5})
	wantNoHead(t, "the lowest byte first", b[:508]+string([]byte{b[511], b[510], b[509], b[508]}))
	wantNoHead(t, "the checksum 0", b[:508]+"\x00\x00\x00\x00")
	wantNoHead(t, "all bits turned", b[:508]+string([]byte{^b[508], ^b[509], ^b[510], ^b[511]}))
	wantNoHead(t, "the head's alone", b[:508]+number(4, uint64(checksum(b[:12]))))
}

func TestTakeOfBytesAllAlike(t *testing.T) {
	for x := range 256 {
		b := strings.Repeat(string([]byte{byte(x)}), 512)
		wantNoHead(t, "bytes alike", b)
		wantNoHead(t, "bytes alike, sealed", sealed(b[:508]))
	}
}

func TestEachOtherByteIsNoHead(t *testing.T) {
	b := headTold(record.Head{Box: 7, Used: 36, Sum: 5})
	for at := range b {
		for x := range 256 {
			if c := string([]byte{byte(x)}); c != b[at:at+1] {
				wantNoHead(t, "one byte is another one", b[:at]+c+b[at+1:])
			}
		}
	}
}

// Bytes of a head that are others, and sealed again, are another head's, or none's.
func TestTakeOfBytesThatAreOthers(t *testing.T) {
	r := rand.New(rand.NewPCG(13, 5))
	taken, refused := 0, 0
	for range 20000 {
		b := []byte(headTold(record.Head{Box: r.IntN(1 << 16), Used: r.IntN(2049), Sum: r.Uint32()}))
		for range 1 + r.IntN(2) {
			b[r.IntN(14)] = byte(r.Uint32())
		}
		s := sealed(string(b[:508]))
		if h, ok := headOf(s); ok {
			wantTaken(t, s, h)
			taken++
		} else {
			wantNoHead(t, "none's", s)
			refused++
		}
	}
	if taken < 1000 || refused < 1000 {
		t.Errorf("%d were taken, %d refused", taken, refused)
	}
}
