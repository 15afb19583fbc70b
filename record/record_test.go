package record_test

import (
	"math/rand/v2"
	"slices"
	"strings"
	"testing"

	"armarium/api"
	"armarium/record"
)

// P13.1

func ascending() api.Hash {
	var h api.Hash
	for i := range h {
		h[i] = byte(i + 1)
	}
	return h
}

func TestPutExampleOfTheChapter(t *testing.T) {
	h := ascending()
	b, e := record.Put(h, "ab")
	if e != api.OK || len(b) != 36 || api.Hash(b[:32]) != h || string(b[32:]) != "\x00\x02ab" {
		t.Errorf("error %d, % x", e, b)
	}
}

func TestPutOfAllLengths(t *testing.T) {
	for n := range 2015 {
		wantPut(t, ascending(), text(n))
	}
	wantPut(t, api.Hash{}, "")
	wantPut(t, api.Hash{}, strings.Repeat("\x00", 2014))
	wantPut(t, api.Hash{31: 255}, "\x00\xff")
}

func TestARecordHasOverMoreBytesThanItsData(t *testing.T) {
	for _, n := range []int{0, 1, 255, 256, api.BoxRoom - record.Over} {
		if b, e := record.Put(api.Hash{}, text(n)); e != api.OK || len(b) != n+record.Over || record.Over != 34 {
			t.Errorf("%d bytes of data: error %d, %d bytes", n, e, len(b))
		}
	}
}

func TestPutOfMoreDataThanARecordHas(t *testing.T) {
	for _, n := range []int{2015, 2016, 2047, 2048, 2049, 4096, 65535, 65536, 65537, 65536 + 2014, 1 << 20} {
		wantTooMuch(t, n)
	}
}

func TestPutAnswersNewMemory(t *testing.T) {
	a, _ := record.Put(ascending(), "ab")
	clear(a[:cap(a)])
	wantPut(t, ascending(), "ab")
}

func TestWalkOfNoBytes(t *testing.T) {
	if l, e := record.Walk(nil, 0); e != api.OK || len(l) != 0 {
		t.Errorf("nil: error %d, %s", e, brief(l))
	}
	wantWalked(t, "", 0, nil)
	wantWalked(t, text(50), 0, nil)
	wantWalked(t, recordTold(api.Hash{1}, "ab"), 0, nil)
}

func TestWalkOfOneRecord(t *testing.T) {
	for n := range 2015 {
		b := recordTold(ascending(), text(n))
		wantWalked(t, b, len(b), []record.Record{{Hash: ascending(), Data: text(n)}})
	}
}

func TestWalkTellsPlaces(t *testing.T) {
	b := recordTold(api.Hash{1}, "ab") + recordTold(api.Hash{2}, "") + recordTold(api.Hash{1}, "ab") + recordTold(api.Hash{}, text(300))
	want := []record.Record{
		{At: 0, Hash: api.Hash{1}, Data: "ab"},
		{At: 36, Hash: api.Hash{2}},
		{At: 70, Hash: api.Hash{1}, Data: "ab"},
		{At: 106, Data: text(300)},
	}
	wantWalked(t, b, len(b), want)
	wantWalked(t, b, 106, want[:3])
	wantWalked(t, b, 70, want[:2])
	wantWalked(t, b, 36, want[:1])
}

func TestWalkOfBytesZero(t *testing.T) {
	zeros := strings.Repeat("\x00", 2048)
	for used := range 2049 {
		if ok := wantAsTold(t, zeros, used); ok != (used%34 == 0) {
			t.Errorf("%d bytes 0: %v", used, ok)
		}
	}
}

func TestWalkOfUsedBytesThatThereAreNot(t *testing.T) {
	b := recordTold(api.Hash{1}, "ab")
	for _, used := range []int{least, least + 1, -65536, -36, -2, -1, 37, 70, 72, 2048, 65536 + 36, 1<<32 + 36, 1<<32 - 1, most - 1, most} {
		wantNoRecords(t, "not so many", b, used)
	}
	for _, used := range []int{least, -1, 1, 34, most} {
		wantNoRecords(t, "not one", "", used)
		if l, e := record.Walk(nil, used); e != api.ErrForm || len(l) != 0 {
			t.Errorf("nil, %d: error %d, %s", used, e, brief(l))
		}
	}
}

// What stands behind a slice's end is not among its bytes, though there is room for it.
func TestWalkOfBytesBehindASlicesEnd(t *testing.T) {
	b := []byte(recordTold(api.Hash{1}, "ab") + recordTold(api.Hash{2}, "cd"))
	if l, e := record.Walk(b[:36], 72); e != api.ErrForm || len(l) != 0 {
		t.Errorf("error %d, %s", e, brief(l))
	}
}

// A record that ends behind the used bytes is none, wherever these end, and how many bytes are there.
func TestWalkUpToEachByte(t *testing.T) {
	b := recordTold(api.Hash{1}, "ab") + recordTold(api.Hash{2}, "") + recordTold(ascending(), text(40)) + recordTold(api.Hash{3}, "c")
	ends := []int{0, 36, 70, 144, 179}
	for used := range len(b) + 1 {
		if wantAsTold(t, b, used) != slices.Contains(ends, used) {
			t.Errorf("%d bytes", used)
		}
		if wantAsTold(t, b[:used], used) != slices.Contains(ends, used) {
			t.Errorf("%d bytes, and no more", used)
		}
	}
}

// dataOf are the bytes of a record whose bytes say that its data have so many.
func dataOf(n int) string {
	h := ascending()
	return string(h[:]) + number(2, uint64(n)) + text(n)
}

func TestWalkOfMoreDataThanARecordHas(t *testing.T) {
	for _, n := range []int{2015, 2016, 2048, 2049, 4096, 32768, 65535} {
		b := dataOf(n)
		wantNoRecords(t, "too much data", b, len(b))
		first := recordTold(api.Hash{1}, "ab")
		wantNoRecords(t, "too much data behind a record", first+b, len(first+b))
		wantNoRecords(t, "too much data ahead of a record", b+first, len(b+first))
	}
	b := dataOf(2014)
	wantWalked(t, b, len(b), []record.Record{{Hash: ascending(), Data: text(2014)}})
}

func TestWalkOfARecordThatTellsMoreThanIsThere(t *testing.T) {
	for _, n := range []int{3, 4, 36, 255, 256, 257, 512, 2014} {
		h := ascending()
		b := string(h[:]) + number(2, uint64(n)) + "ab"
		wantNoRecords(t, "more than there is", b, len(b))
		first := recordTold(api.Hash{1}, "ab")
		wantNoRecords(t, "more than there is, behind a record", first+b, len(first+b))
	}
}

// Records that go beyond a box's room are records too.
func TestWalkOfMoreBytesThanABoxHas(t *testing.T) {
	var want []record.Record
	b := ""
	for i := range 40 {
		want = append(want, record.Record{At: len(b), Hash: api.Hash{byte(i)}, Data: text(50 * i)})
		b += recordTold(api.Hash{byte(i)}, text(50*i))
		wantWalked(t, b, len(b), want)
	}
	wantNoRecords(t, "a byte more", b+"b", len(b)+1)
}

func TestWalkKeepsNothing(t *testing.T) {
	b := []byte(recordTold(ascending(), "ab") + recordTold(api.Hash{2}, "cd"))
	l, e := record.Walk(b, len(b))
	clear(b)
	if e != api.OK || !slices.Equal(l, []record.Record{{Hash: ascending(), Data: "ab"}, {At: 36, Hash: api.Hash{2}, Data: "cd"}}) {
		t.Errorf("error %d, %s", e, brief(l))
	}
}

func TestWalkAnswersNewMemory(t *testing.T) {
	b := recordTold(ascending(), "ab") + recordTold(api.Hash{2}, "cd")
	l, _ := record.Walk([]byte(b), len(b))
	was := slices.Clone(l)
	other, _ := record.Walk([]byte(b), len(b))
	clear(other[:cap(other)])
	if !slices.Equal(l, was) {
		t.Errorf("became %s", brief(l))
	}
	wantWalked(t, b, len(b), was)
}

// An error that stands behind many records goes ahead of all of them.
func TestWalkOfManyRecords(t *testing.T) {
	b := strings.Repeat("\x00", 34*30000)
	wantNoRecords(t, "a byte too many", b+"b", len(b)+1)
	if l, e := record.Walk([]byte(b), len(b)); e != api.OK || len(l) != 30000 || l[29999].At != 34*29999 {
		t.Errorf("error %d, %s", e, brief(l))
	}
}

// Bytes of which one is another one, or is missing, or one too many, are other records', or none's.
func TestWalkOfBytesThatAreOthers(t *testing.T) {
	r := rand.New(rand.NewPCG(13, 1))
	walked, refused := 0, 0
	for range 60 {
		_, b := someRecords(r, 600)
		for at := range len(b) {
			other := string([]byte{b[at] ^ byte(1+r.IntN(255))})
			near := string([]byte{b[at] ^ 1<<r.IntN(8)})
			for _, x := range []string{b[:at] + other + b[at+1:], b[:at] + near + b[at+1:], b[:at] + b[at+1:], b[:at] + other + b[at:], b[:at]} {
				if wantAsTold(t, x, len(x)) {
					walked++
				} else {
					refused++
				}
			}
		}
	}
	if walked < 1000 || refused < 1000 {
		t.Errorf("%d were walked, %d refused", walked, refused)
	}
}

// Any bytes at all, many of them small, so that records are short.
func TestWalkOfAnyBytes(t *testing.T) {
	r := rand.New(rand.NewPCG(13, 2))
	walked := 0
	for range 30000 {
		b := []byte(someText(r, r.IntN(200)))
		for at := 32; at < len(b); at += 34 {
			b[at] = byte(r.IntN(8) / 7)
			if at+1 < len(b) {
				b[at+1] = byte(r.IntN(40) * r.IntN(2))
			}
		}
		if wantAsTold(t, string(b), r.IntN(len(b)+1)) {
			walked++
		}
		wantAsTold(t, string(b), len(b))
	}
	if walked < 300 {
		t.Errorf("%d were walked", walked)
	}
}
