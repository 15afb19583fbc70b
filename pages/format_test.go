package pages_test

import (
	"slices"
	"strings"
	"testing"

	"armarium/api"
	"armarium/disk"
	"armarium/pages"
)

// P8.1

func TestNoteRoom(t *testing.T) {
	if pages.NoteRoom != 40 {
		t.Error(pages.NoteRoom)
	}
}

// written is a disk on each sector of which something else lies.
func written(t *testing.T, sectors int) *disk.Disk {
	t.Helper()
	d := newDisk(t, sectors)
	for at := range sectors {
		want(t, "Write", d.Write(at, []byte(strings.Repeat(string([]byte{0xee, byte(at)}), 256))), api.OK)
	}
	want(t, "Flush", d.Flush(), api.OK)
	return d
}

// wantFormatted fails unless Format writes just the pages, and one head of the log, and nothing waits.
func wantFormatted(t *testing.T, d *disk.Disk, log, n int, note string) {
	t.Helper()
	was, acts := sectorsOf(d), d.Acts()
	want(t, "Format", pages.Format(d, log, n, note), api.OK)
	if got := d.Acts() - acts; got != uint64(n)+1+2 || d.Waiting() != 0 {
		t.Errorf("%d acts, %d wait", got, d.Waiting())
	}
	wantRaw(t, d, log, 0, "\x01"+zeros(511))
	for i := 1; i < n; i++ {
		wantRaw(t, d, log, i, zeros(512))
	}
	now := sectorsOf(d)
	if (now[0] == was[0]) == (now[1] == was[1]) || !slices.Equal(now[2:2+log], was[2:2+log]) || !slices.Equal(now[2+log+n:], was[2+log+n:]) {
		t.Error("other sectors than one head's and the pages' were written")
	}
	gotNote, texts, gotLog := logOf(t, d)
	if wantNote := string([]byte{byte(n >> 8), byte(n)}) + note; gotNote != wantNote || len(texts) != 0 || gotLog != log {
		t.Errorf("the log has the note %q, %d texts, %d sectors; want %q, 0, %d", gotNote, len(texts), gotLog, wantNote, log)
	}
}

func TestFormat(t *testing.T) {
	wantFormatted(t, written(t, 2+100+70+5), 100, 70, "a note")
}

func TestFormatOfTheLeastAndTheMost(t *testing.T) {
	long := strings.Repeat("\x00\xff", 20)
	wantFormatted(t, written(t, 2+96+64), 96, 64, "")
	wantFormatted(t, written(t, 2+96+64), 96, 64, long)
	wantFormatted(t, written(t, 2+512+1024), 512, 1024, long)
	wantFormatted(t, written(t, 2+512+1024), 512, 1024, "")
	wantFormatted(t, written(t, 4096), 96, 258, long[:39])
}

// What a store had is gone, also where the new one's log and pages lie elsewhere.
func TestFormatAgain(t *testing.T) {
	d := newDisk(t, 300)
	for i, c := range []struct{ log, n int }{{96, 64}, {96, 64}, {150, 100}, {96, 120}, {200, 64}, {96, 64}} {
		wantFormatted(t, d, c.log, c.n, string(rune('a'+i)))
		s := opened(t, d)
		wantStore(t, s, newTold(c.n))
		if s.Note() != string(rune('a'+i)) {
			t.Errorf("the note is %q", s.Note())
		}
		for at := range 60 {
			s.Alloc()
			want(t, "Put", s.Put(1+at, []byte(full("old"))), api.OK)
		}
		want(t, "Commit", s.Commit(), api.OK)
		want(t, "Put", s.Put(1, []byte(full("older"))), api.OK)
		want(t, "Commit", s.Commit(), api.OK)
	}
}

func TestFormatOfWrongThings(t *testing.T) {
	long := strings.Repeat("n", 41)
	for _, c := range []struct {
		log, n int
		note   string
	}{
		{96, 63, ""}, {96, 0, ""}, {96, -1, ""}, {96, 1025, ""}, {96, 1 << 32, ""}, {96, lowest, ""}, {96, greatest, ""}, {96, 1<<16 + 64, ""},
		{95, 64, ""}, {0, 64, ""}, {-1, 64, ""}, {513, 64, ""}, {1<<16 + 96, 64, ""}, {lowest, 64, ""}, {greatest, 64, ""},
		{greatest, greatest, ""}, {lowest, lowest, ""},
		{96, 64, long}, {96, 64, strings.Repeat("n", 64)}, {96, 64, strings.Repeat("n", 1<<16)},
		{512, 287, ""}, {96, 703, ""}, {512, 1024, ""}, {96, 1024, ""}, {512, 287, long},
	} {
		d := written(t, 800)
		wantUntouched(t, "Format", d, func() { want(t, "Format", pages.Format(d, c.log, c.n, c.note), api.ErrArg) })
		d.Crash("")
		want(t, "Format without power", pages.Format(d, c.log, c.n, c.note), api.ErrArg)
		want(t, "Format of no disk", pages.Format(nil, c.log, c.n, c.note), api.ErrNil)
	}
	want(t, "Format of no disk", pages.Format(nil, 96, 64, ""), api.ErrNil)
}

// The disk must have all sectors, and may have just these.
func TestFormatOfADiskThatIsTooShort(t *testing.T) {
	for _, c := range []struct{ log, n int }{{96, 64}, {512, 64}, {96, 1024}, {512, 1024}, {123, 456}} {
		for _, sectors := range []int{1, 2, 98, c.log, c.n, c.log + c.n, 1 + c.log + c.n} {
			d := newDisk(t, sectors)
			wantUntouched(t, "Format", d, func() { want(t, "Format", pages.Format(d, c.log, c.n, ""), api.ErrArg) })
		}
		want(t, "Format", pages.Format(newDisk(t, 2+c.log+c.n), c.log, c.n, ""), api.OK)
	}
}

func TestFormatWithoutPower(t *testing.T) {
	d := newDisk(t, 200)
	d.Crash("")
	wantUntouched(t, "Format", d, func() { want(t, "Format", pages.Format(d, 96, 64, ""), api.ErrDead) })
}

// The pages are flushed ahead of the head: only where that reached the disk a store is there, with all its pages.
func TestFormatIsCut(t *testing.T) {
	for acts := range 64 + 1 + 2 {
		for _, keep := range []string{"", "\xff\xff\xff\xff\xff\xff\xff\xff", "\x01"} {
			d := written(t, 2+96+64)
			want(t, "Fuse", d.Fuse(acts, keep), api.OK)
			want(t, "Format", pages.Format(d, 96, 64, "n"), api.ErrDead)
			want(t, "Start", d.Start(), api.OK)
			s, e := pages.Open(d)
			if acts < 66 || keep == "" {
				if s != nil || e != api.ErrSpoilt {
					t.Fatalf("behind %d acts: %v", acts, e)
				}
				continue
			}
			want(t, "Open", e, api.OK)
			wantStore(t, s, newTold(64))
		}
	}
}
