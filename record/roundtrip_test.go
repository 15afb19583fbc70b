package record_test

import (
	"math/rand/v2"
	"strings"
	"testing"

	"armarium/api"
	"armarium/record"
)

// P13.3

// putAll is what Put answers of records, one behind the other.
func putAll(t *testing.T, l []record.Record) string {
	t.Helper()
	var all []byte
	for _, x := range l {
		if len(all) != x.At {
			t.Fatalf("a record at %d is put at %d", x.At, len(all))
		}
		b, e := record.Put(x.Hash, x.Data)
		if e != api.OK {
			t.Fatalf("%d bytes of data: error %d", len(x.Data), e)
		}
		all = append(all, b...)
	}
	return string(all)
}

func TestRecordsThatArePutAreWalked(t *testing.T) {
	r := rand.New(rand.NewPCG(13, 6))
	full := 0
	for range 3000 {
		l, told := someRecords(r, api.BoxRoom)
		b := putAll(t, l)
		if b != told {
			t.Fatalf("%s: put as %x", brief(l), b)
		}
		if len(b) == api.BoxRoom {
			full++
		}
		wantWalked(t, b, len(b), l)
	}
	if full < 50 {
		t.Errorf("%d boxes were full", full)
	}
}

// What is behind plays no part: bytes 0, other records, or what is none.
func TestWhatIsBehindPlaysNoPart(t *testing.T) {
	r := rand.New(rand.NewPCG(13, 7))
	for range 1000 {
		l, b := someRecords(r, api.BoxRoom)
		_, other := someRecords(r, api.BoxRoom)
		behind := strings.Repeat("\x00", api.BoxRoom-len(b))
		for _, x := range []string{behind, other, behind + other, someText(r, 1+r.IntN(100)), "\x00", "\xff", strings.Repeat("\xff", 40)} {
			wantWalked(t, b+x, len(b), l)
		}
		for i, x := range l {
			wantWalked(t, b, x.At, l[:i])
		}
	}
}

// wantToldApart fails unless a head of bytes tells others, that are as many, from them.
func wantToldApart(t *testing.T, was, is string) {
	t.Helper()
	b, e := record.Seal(5, []byte(was))
	if e != api.OK {
		t.Fatalf("%d bytes: error %d", len(was), e)
	}
	h, e := record.Take(b)
	if e != api.OK || h.Used != len(was) || h.Sum != checksum(was) {
		t.Fatalf("%d bytes: error %d, head %v", len(was), e, h)
	}
	if is == was {
		t.Fatal("nothing was changed")
	}
	if h.Sum == checksum(is) {
		t.Errorf("%x and %x are sealed alike", was, is)
	}
	if other, e := record.Seal(5, []byte(is)); e != api.OK || string(other) == string(b) {
		t.Errorf("error %d: %x and %x have one sector", e, was, is)
	}
}

func TestAHeadTellsBitsSideBySideThatAreOthers(t *testing.T) {
	r := rand.New(rand.NewPCG(13, 8))
	full := ""
	for len(full) < api.BoxRoom {
		_, full = someRecords(r, api.BoxRoom)
	}
	for _, was := range []string{"\x00", "abcd", recordTold(api.Hash{}, ""), recordTold(api.Hash{1}, "ab"), recordTold(api.Hash{9}, text(200)), full} {
		for from := range len(was) * 8 {
			for _, mask := range []uint32{1, 1<<32 - 1, r.Uint32() | 1<<31 | 1} {
				if is := turned(was, from, mask); is != was {
					wantToldApart(t, was, is)
				}
			}
		}
	}
}

// A head says of which box it is, and how many bytes it has, so that one box's is not taken for another one's.
func TestHeadsOfOtherBoxesAreOthers(t *testing.T) {
	seen := map[string]record.Head{}
	for box := range 50 {
		for n := range 80 {
			b, e := record.Seal(box, make([]byte, n))
			h, e2 := record.Take(b)
			if e != api.OK || e2 != api.OK || h.Box != box || h.Used != n {
				t.Fatalf("box %d, %d bytes: errors %d, %d, head %v", box, n, e, e2, h)
			}
			if was, is := seen[string(b)]; is {
				t.Fatalf("%v has the sector of %v", h, was)
			}
			seen[string(b)] = h
		}
	}
}

func FuzzWalk(f *testing.F) {
	f.Add([]byte{}, 0)
	f.Add([]byte(recordTold(api.Hash{1}, "ab")+recordTold(api.Hash{2}, "")), 70)
	f.Add(make([]byte, 68), 68)
	f.Fuzz(func(t *testing.T, b []byte, used int) {
		if used < 0 || used > len(b) {
			wantNoRecords(t, "not so many", string(b), used)
			return
		}
		wantAsTold(t, string(b), used)
	})
}

func FuzzTake(f *testing.F) {
	f.Add([]byte{})
	f.Add(make([]byte, 512))
	f.Add([]byte(headTold(record.Head{Box: 7, Used: 36, Sum: 5})))
	f.Fuzz(func(t *testing.T, b []byte) {
		took(t, string(b))
		if len(b) >= 508 { // the checksum made good, so that the rest is looked at
			took(t, sealed(string(b[:508])))
		}
	})
}

// took fails unless a sector is taken as the chapter's words take it, and just that of its head.
func took(t *testing.T, b string) {
	t.Helper()
	h, ok := headOf(b)
	if !ok {
		wantNoHead(t, "none's", b)
		return
	}
	wantTaken(t, b, h)
	if b != headTold(h) {
		t.Fatalf("%v: taken of %x", h, b)
	}
}
