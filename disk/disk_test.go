package disk_test

import (
	"bytes"
	"math"
	"strings"
	"testing"

	"armarium/api"
	"armarium/disk"
)

func newDisk(t *testing.T, sectors int) *disk.Disk {
	t.Helper()
	d, e := disk.New(sectors)
	if e != api.OK || d == nil {
		t.Fatalf("New(%d): %v", sectors, e)
	}
	return d
}

// each is a sector whose bytes are all that one.
func each(c byte) []byte { return bytes.Repeat([]byte{c}, api.Sector) }

func want(t *testing.T, what string, got, want api.Errno) {
	t.Helper()
	if got != want {
		t.Errorf("%s: %v; want %v", what, got, want)
	}
}

// wantNow fails unless the sectors are now of these bytes each, from the sector 0 on.
func wantNow(t *testing.T, d *disk.Disk, bytesOfEach ...byte) {
	t.Helper()
	for at, c := range bytesOfEach {
		if b, e := d.Read(at); e != api.OK || !bytes.Equal(b, each(c)) {
			t.Errorf("sector %d is now %.4x, %v; want %d", at, b, e, c)
		}
	}
}

// wantRaw fails unless the sectors are of these bytes each on the disk, from the sector 0 on.
func wantRaw(t *testing.T, d *disk.Disk, bytesOfEach ...byte) {
	t.Helper()
	for at, c := range bytesOfEach {
		if b := d.Raw(at); !bytes.Equal(b, each(c)) {
			t.Errorf("sector %d is on the disk %.4x; want %d", at, b, c)
		}
	}
}

// wantCounts fails unless these are the numbers of the writes that wait, and of the acts.
func wantCounts(t *testing.T, d *disk.Disk, waiting int, acts uint64) {
	t.Helper()
	if d.Waiting() != waiting || d.Acts() != acts {
		t.Errorf("%d wait, %d acts; want %d, %d", d.Waiting(), d.Acts(), waiting, acts)
	}
}

// P4.1

func TestNew(t *testing.T) {
	for _, n := range []int{1, 2, 96, api.MaxSectors - 1, api.MaxSectors} {
		d := newDisk(t, n)
		if d.Len() != n || !d.Alive() {
			t.Errorf("of %d sectors: %d, alive %v", n, d.Len(), d.Alive())
		}
		wantCounts(t, d, 0, 0)
		for _, at := range []int{0, n / 2, n - 1} {
			if b, e := d.Read(at); e != api.OK || !bytes.Equal(b, each(0)) || !bytes.Equal(d.Raw(at), each(0)) {
				t.Errorf("sector %d of %d is not 0 at first: %.4x, %v", at, n, b, e)
			}
		}
	}
	for _, n := range []int{0, -1, api.MaxSectors + 1, math.MaxInt, math.MinInt} {
		if d, e := disk.New(n); d != nil || e != api.ErrArg {
			t.Errorf("New(%d): %v, %v; want none, %v", n, d, e, api.ErrArg)
		}
	}
}

func TestReadWriteFlush(t *testing.T) {
	d := newDisk(t, 3)
	want(t, "Write", d.Write(0, each(1)), api.OK)
	want(t, "Write", d.Write(2, each(2)), api.OK)
	want(t, "Write", d.Write(0, each(3)), api.OK)
	wantNow(t, d, 3, 0, 2)
	wantRaw(t, d, 0, 0, 0)
	wantCounts(t, d, 3, 3)
	want(t, "Flush", d.Flush(), api.OK)
	wantNow(t, d, 3, 0, 2)
	wantRaw(t, d, 3, 0, 2)
	wantCounts(t, d, 0, 4)
	want(t, "Flush", d.Flush(), api.OK)
	wantCounts(t, d, 0, 5)
	want(t, "Write", d.Write(0, each(4)), api.OK)
	wantNow(t, d, 4, 0, 2)
	wantRaw(t, d, 3, 0, 2)
	wantCounts(t, d, 1, 6)
}

func TestAllSectorsHaveTheirOwn(t *testing.T) {
	d := newDisk(t, api.MaxSectors)
	for at := range api.MaxSectors {
		want(t, "Write", d.Write(at, filled(byte(at)^byte(at>>8)*31)), api.OK)
	}
	for range 2 {
		for at := range api.MaxSectors {
			if b, e := d.Read(at); e != api.OK || !bytes.Equal(b, filled(byte(at)^byte(at>>8)*31)) {
				t.Fatalf("sector %d is another one, %v", at, e)
			}
		}
		want(t, "Flush", d.Flush(), api.OK)
	}
}

func TestWrongCallsChangeNothing(t *testing.T) {
	d := newDisk(t, 2)
	d.Write(1, each(7))
	for _, at := range []int{-1, 2, math.MaxInt, math.MinInt} {
		if b, e := d.Read(at); len(b) != 0 || e != api.ErrArg {
			t.Errorf("Read(%d): %.4x, %v", at, b, e)
		}
		want(t, "Write to no sector", d.Write(at, each(1)), api.ErrArg)
	}
	for _, n := range []int{0, 1, api.Sector - 1, api.Sector + 1, 2 * api.Sector} {
		want(t, "Write of other bytes", d.Write(0, make([]byte, n)), api.ErrArg)
	}
	want(t, "Write of nil", d.Write(0, nil), api.ErrArg)
	wantNow(t, d, 0, 7)
	wantCounts(t, d, 1, 1)
}

func TestNoDisk(t *testing.T) {
	var d *disk.Disk
	if b, e := d.Read(-1); len(b) != 0 || e != api.ErrNil {
		t.Errorf("Read: %v, %v", b, e)
	}
	want(t, "Write", d.Write(-1, nil), api.ErrNil)
	want(t, "Flush", d.Flush(), api.ErrNil)
	want(t, "Fuse", d.Fuse(-1, ""), api.ErrNil)
	want(t, "Crash", d.Crash(""), api.ErrNil)
	want(t, "Start", d.Start(), api.ErrNil)
	if d.Len() != 0 || d.Alive() || len(d.Raw(0)) != 0 || d.Copy() != nil {
		t.Error("no disk has something")
	}
	wantCounts(t, d, 0, 0)
}

// R3: bytes that come in, and bytes that go out, are the caller's.
func TestBytesAreNotShared(t *testing.T) {
	d := newDisk(t, 2)
	b := filled(5)
	d.Write(0, b)
	if !bytes.Equal(b, filled(5)) {
		t.Error("bytes that were handed in were changed")
	}
	clear(b)
	for range 2 {
		for range 2 {
			out, _ := d.Read(0)
			if !bytes.Equal(out, filled(5)) {
				t.Errorf("sector 0 is another one: %.4x", out)
			}
			clear(out)
			clear(append(out, 1, 2, 3))
		}
		d.Flush()
	}
	clear(d.Raw(0))
	if !bytes.Equal(d.Raw(0), filled(5)) {
		t.Error("the caller's writing is on the disk")
	}
}

func TestFuseAheadOfAWrite(t *testing.T) {
	d := newDisk(t, 3)
	want(t, "Fuse", d.Fuse(2, "\x02"), api.OK)
	want(t, "Write", d.Write(0, each(1)), api.OK)
	want(t, "Write", d.Write(1, each(2)), api.OK)
	if !d.Alive() {
		t.Error("the power went with the last act, not ahead of the next one")
	}
	wantNow(t, d, 1, 2, 0)
	want(t, "Write", d.Write(2, each(3)), api.ErrDead)
	if d.Alive() {
		t.Error("alive")
	}
	wantRaw(t, d, 0, 2, 0)
	wantCounts(t, d, 0, 2)
	d.Start()
	wantNow(t, d, 0, 2, 0)
	want(t, "Write: no fuse is there any more", d.Write(2, each(4)), api.OK)
	want(t, "Flush", d.Flush(), api.OK)
	wantNow(t, d, 0, 2, 4)
	wantCounts(t, d, 0, 4)
}

func TestFuseAheadOfAFlush(t *testing.T) {
	d := newDisk(t, 2)
	d.Fuse(3, "\x01")
	d.Write(0, each(1))
	want(t, "Flush", d.Flush(), api.OK)
	d.Write(1, each(2))
	want(t, "Flush", d.Flush(), api.ErrDead)
	wantRaw(t, d, 1, 2)
	wantCounts(t, d, 0, 3)

	d = newDisk(t, 2)
	d.Write(0, each(1))
	d.Fuse(0, "")
	want(t, "Flush", d.Flush(), api.ErrDead)
	wantRaw(t, d, 0, 0)
	wantCounts(t, d, 0, 1)
}

func TestOnlyActsBurnTheFuse(t *testing.T) {
	d := newDisk(t, 2)
	d.Fuse(1, "\xff")
	for range 3 {
		d.Read(0)
		d.Read(9)
		d.Raw(0)
		d.Start()
		d.Copy()
		want(t, "Write to no sector", d.Write(2, each(1)), api.ErrArg)
		want(t, "Write of too few", d.Write(0, nil), api.ErrArg)
		want(t, "Fuse", d.Fuse(-1, ""), api.ErrArg)
	}
	want(t, "Write", d.Write(0, each(1)), api.OK)
	for range 3 {
		wantNow(t, d, 1, 0)
		want(t, "Write to no sector", d.Write(-1, each(1)), api.ErrArg)
		want(t, "Write of too many", d.Write(0, make([]byte, api.Sector+1)), api.ErrArg)
	}
	want(t, "Write", d.Write(1, each(2)), api.ErrDead)
	wantRaw(t, d, 1, 0)
}

// P4.2

func TestWithoutPower(t *testing.T) {
	d := newDisk(t, 2)
	d.Write(0, each(1))
	want(t, "Crash", d.Crash("\x01"), api.OK)
	for _, at := range []int{0, -1, 2} {
		if b, e := d.Read(at); len(b) != 0 || e != api.ErrDead {
			t.Errorf("Read: %.4x, %v", b, e)
		}
		want(t, "Write", d.Write(at, each(2)), api.ErrDead)
		want(t, "Write", d.Write(at, nil), api.ErrDead)
	}
	want(t, "Flush", d.Flush(), api.ErrDead)
	want(t, "Crash", d.Crash("\xff"), api.ErrDead)
	if d.Len() != 2 || d.Alive() {
		t.Error(d.Len(), d.Alive())
	}
	wantRaw(t, d, 1, 0)
	wantCounts(t, d, 0, 1)
	want(t, "Start", d.Start(), api.OK)
	if !d.Alive() {
		t.Error("no power behind Start")
	}
	wantNow(t, d, 1, 0)
}

func TestCrashExampleOfTheChapter(t *testing.T) {
	d := newDisk(t, 2)
	d.Write(0, each('a'))
	d.Flush()
	d.Write(0, each('b'))
	d.Write(1, each('c'))
	d.Crash("\x02")
	d.Start()
	wantNow(t, d, 'a', 'c')
}

// Each of 19 writes has its own bit, the lowest one of a byte first, and none behind the text's end.
func TestCrashBits(t *testing.T) {
	crashed := func(bits string) *disk.Disk {
		d := newDisk(t, 19)
		for at := range 19 {
			d.Write(at, each(byte(at+1)))
		}
		want(t, "Crash", d.Crash(bits), api.OK)
		wantCounts(t, d, 0, 19)
		return d
	}
	for only := range 24 {
		bits := make([]byte, 3)
		bits[only/8] = 1 << (only % 8)
		var there [19]byte
		if only < 19 {
			there[only] = byte(only + 1)
		}
		wantRaw(t, crashed(string(bits)), there[:]...)
	}
	wantRaw(t, crashed(""), make([]byte, 19)...)
	wantRaw(t, crashed("\xff"), 1, 2, 3, 4, 5, 6, 7, 8, 0, 0, 0, 0, 0, 0, 0, 0, 0, 0, 0)
	wantRaw(t, crashed("\xff\xff\xff"), 1, 2, 3, 4, 5, 6, 7, 8, 9, 10, 11, 12, 13, 14, 15, 16, 17, 18, 19)
	wantRaw(t, crashed(strings.Repeat("\xff", 50)), 1, 2, 3, 4, 5, 6, 7, 8, 9, 10, 11, 12, 13, 14, 15, 16, 17, 18, 19)
	wantRaw(t, crashed("\x00\x00\x04"), 0, 0, 0, 0, 0, 0, 0, 0, 0, 0, 0, 0, 0, 0, 0, 0, 0, 0, 19)
}

// The writes reach the disk in order: of two to one sector the later one stays, if its bit is 1.
func TestCrashOfWritesToOneSector(t *testing.T) {
	for bits, there := range []byte{9, 1, 2, 2, 3, 3, 3, 3} {
		d := newDisk(t, 1)
		d.Write(0, each(9))
		d.Flush()
		for c := byte(1); c <= 3; c++ {
			d.Write(0, each(c))
		}
		d.Crash(string([]byte{byte(bits)}))
		wantRaw(t, d, there)
		d.Start()
		wantNow(t, d, there)
	}
}

func TestBitsTellWhatWaitsSinceTheLastFlush(t *testing.T) {
	d := newDisk(t, 3)
	d.Write(0, each(1))
	d.Flush()
	d.Write(1, each(2))
	d.Write(2, each(3))
	d.Crash("\x01")
	wantRaw(t, d, 1, 2, 0)
}

func TestCrashTakesTheFuse(t *testing.T) {
	d := newDisk(t, 1)
	d.Fuse(0, "\xff")
	d.Crash("")
	d.Start()
	want(t, "Write", d.Write(0, each(1)), api.OK)
	want(t, "Flush", d.Flush(), api.OK)
}

func TestFuseWithoutPower(t *testing.T) {
	d := newDisk(t, 2)
	d.Crash("")
	want(t, "Fuse", d.Fuse(-1, "\xff"), api.ErrArg)
	want(t, "Fuse", d.Fuse(1, "\x01"), api.OK)
	want(t, "Write", d.Write(0, each(1)), api.ErrDead)
	want(t, "Flush", d.Flush(), api.ErrDead)
	want(t, "Crash: it takes no fuse without power", d.Crash(""), api.ErrDead)
	d.Start()
	want(t, "Write", d.Write(0, each(2)), api.OK)
	want(t, "Flush", d.Flush(), api.ErrDead)
	wantRaw(t, d, 2, 0)
}

func TestLaterFuseStandsForTheEarlierOne(t *testing.T) {
	d := newDisk(t, 2)
	d.Fuse(0, "\xff")
	d.Fuse(2, "\x02")
	want(t, "Write", d.Write(0, each(1)), api.OK)
	want(t, "Fuse", d.Fuse(math.MinInt, ""), api.ErrArg)
	want(t, "Write", d.Write(1, each(2)), api.OK)
	want(t, "Flush", d.Flush(), api.ErrDead)
	wantRaw(t, d, 0, 2)
	d.Start()
	want(t, "Fuse", d.Fuse(math.MaxInt, ""), api.OK)
	want(t, "Flush", d.Flush(), api.OK)
}

func TestStartWithPower(t *testing.T) {
	d := newDisk(t, 2)
	d.Write(0, each(1))
	d.Fuse(1, "\x01")
	want(t, "Start", d.Start(), api.OK)
	wantNow(t, d, 1, 0)
	wantRaw(t, d, 0, 0)
	wantCounts(t, d, 1, 1)
	want(t, "Write", d.Write(1, each(2)), api.OK)
	want(t, "Start", d.Start(), api.OK)
	want(t, "Write", d.Write(1, each(3)), api.ErrDead)
	wantRaw(t, d, 1, 0)
}

// P4.3

func TestRaw(t *testing.T) {
	d := newDisk(t, 2)
	d.Write(1, each(1))
	d.Flush()
	d.Write(1, each(2))
	wantRaw(t, d, 0, 1)
	d.Crash("")
	wantRaw(t, d, 0, 1)
	for _, at := range []int{-1, 2, math.MaxInt, math.MinInt} {
		if b := d.Raw(at); len(b) != 0 {
			t.Errorf("Raw(%d): %.4x", at, b)
		}
	}
}

func TestActsAreCountedThroughCrashes(t *testing.T) {
	d := newDisk(t, 1)
	for i := range uint64(5) {
		wantCounts(t, d, 0, 2*i)
		d.Flush()
		d.Write(0, each(1))
		wantCounts(t, d, 1, 2*i+2)
		d.Crash("")
		d.Start()
	}
}

func TestCopyIsAlikeInAll(t *testing.T) {
	d := newDisk(t, 3)
	d.Write(0, each(1))
	d.Flush()
	d.Write(0, each(2))
	d.Write(1, each(3))
	d.Fuse(1, "\x06")
	c := d.Copy()
	wantNow(t, c, 2, 3, 0)
	wantRaw(t, c, 1, 0, 0)
	wantCounts(t, c, 2, 4)
	if c.Len() != 3 || !c.Alive() {
		t.Error(c.Len(), c.Alive())
	}
	want(t, "Write", c.Write(2, each(4)), api.OK)
	want(t, "Write", c.Write(2, each(5)), api.ErrDead)
	wantRaw(t, c, 1, 3, 4)
	dead := c.Copy()
	if dead.Alive() {
		t.Error("a dead disk's copy is alive")
	}
	wantRaw(t, dead, 1, 3, 4)
	wantCounts(t, dead, 0, 5)

	wantNow(t, d, 2, 3, 0)
	wantCounts(t, d, 2, 4)
	want(t, "Flush", d.Flush(), api.OK)
	wantRaw(t, d, 2, 3, 0)
	want(t, "Flush", d.Flush(), api.ErrDead)
}

// P4.4: a copy goes its own way, and so does what was copied.
func TestCopiesGoTheirOwnWays(t *testing.T) {
	d := newDisk(t, 2)
	d.Write(0, each(1))
	c := d.Copy()
	d.Write(0, each(2))
	c.Write(0, each(3))
	c.Write(1, each(4))
	wantNow(t, d, 2, 0)
	wantNow(t, c, 3, 4)
	d.Flush()
	wantRaw(t, d, 2, 0)
	wantRaw(t, c, 0, 0)
	wantCounts(t, c, 3, 3)
	c.Fuse(0, "\x04")
	want(t, "Flush", c.Flush(), api.ErrDead)
	wantRaw(t, c, 0, 4)
	wantNow(t, d, 2, 0)
	want(t, "Flush", d.Flush(), api.OK)
	d.Crash("")
	c.Start()
	wantNow(t, c, 0, 4)
	if d.Alive() {
		t.Error("a copy's power is another one's")
	}
}

// R1: an object that nobody made has no sectors and no power, and no call on it panics.
func TestDiskThatNobodyMade(t *testing.T) {
	d := &disk.Disk{}
	for range 2 {
		d.Read(0)
		d.Write(0, each(1))
		d.Flush()
		d.Fuse(1, "")
		d.Raw(0)
		d.Copy().Flush()
		d.Crash("")
		d.Start()
	}
	if d.Len() != 0 {
		t.Error(d.Len())
	}
}
