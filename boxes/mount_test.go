package boxes_test

import (
	"slices"
	"testing"

	"armarium/api"
	"armarium/boxes"
	"armarium/disk"
	"armarium/forest"
)

// P14.1

// A store is a forest, with that note: nothing else is written.
func TestFormatIsAForest(t *testing.T) {
	for _, c := range [][3]int{{96, 64, 3}, {96, 64, 200}, {512, 1024, 200}, {130, 100, 17}} {
		for _, spare := range []int{0, 1, 7} {
			d := newDisk(t, 2+c[0]+c[1]+5*c[2]+spare)
			fill(t, d, 0)
			other := d.Copy()
			want(t, "Format", boxes.Format(d, c[0], c[1], c[2]), api.OK)
			want(t, "Format of a forest", forest.Format(other, c[0], c[1], number(2, c[2])), api.OK)
			if !slices.Equal(sectorsOf(d), sectorsOf(other)) || d.Acts() != other.Acts() {
				t.Fatalf("%v: it is another disk", c)
			}
			wantNew(t, d, c)
		}
	}
}

// wantNew fails unless a disk has a new store of so many boxes.
func wantNew(t *testing.T, d *disk.Disk, c [3]int) {
	t.Helper()
	s := mounted(t, d)
	if s.Len() != c[2] || s.Forest() == nil || s.Forest().Store().Disk() != d {
		t.Fatalf("%v: %d boxes", c, s.Len())
	}
	for i := range c[2] {
		if at := s.Sector(i); at != 2+c[0]+c[1]+5*i {
			t.Fatalf("%v: the box %d is on the sector %d", c, i, at)
		}
	}
	for _, i := range noBoxes(c[2]) {
		if at := s.Sector(i); at != -1 {
			t.Fatalf("%v: the box %d is on the sector %d", c, i, at)
		}
	}
	n, e := s.Forest().Check()
	if want(t, "Check", e, api.OK); n != [8]int{} {
		t.Fatalf("%v: the trees have keys: %v", c, n)
	}
	wantStore(t, s, make(told, c[2]))
}

// noBoxes are numbers of boxes that there are not.
func noBoxes(n int) []int {
	return []int{lowest, -1 << 32, -65536, -200, -1, n, n + 1, 256, 65536, 65537, 1 << 32, 1<<32 + 1, greatest}
}

func TestFormatOfNumbersThatMayNotBe(t *testing.T) {
	d := newDisk(t, 4096)
	fill(t, d, 0)
	wrong := [][3]int{{95, 64, 3}, {513, 64, 3}, {96, 63, 3}, {96, 1025, 3}, {0, 0, 0}, {greatest, greatest, 3}, {lowest, 64, 3}, {96, lowest, 3}, {greatest, 64, 200}, {96, greatest, 200}}
	for _, n := range []int{lowest, -3, -1, 0, 1, 2, 201, 256, 65536 + 3, 1 << 32, 1<<32 + 3, greatest, greatest/5 + 1, greatest/5*2 + 4} {
		wrong = append(wrong, [3]int{96, 64, n})
	}
	for range 2 {
		wantUntouched(t, "Format", d, func() {
			for _, c := range wrong {
				if e := boxes.Format(d, c[0], c[1], c[2]); e != api.ErrArg {
					t.Errorf("%v: %v", c, e)
				}
			}
		})
		d.Crash("") // what may not be is told without power, too
	}
}

func TestFormatOfSectorsThatAreNotThere(t *testing.T) {
	for _, c := range [][3]int{{96, 64, 3}, {97, 70, 4}, {512, 1024, 200}} {
		need := 2 + c[0] + c[1] + 5*c[2]
		for _, n := range []int{1, 2, need - 5*c[2], need - 5, need - 4, need - 1} {
			d := newDisk(t, n)
			wantUntouched(t, "Format", d, func() {
				want(t, "Format", boxes.Format(d, c[0], c[1], c[2]), api.ErrArg)
			})
		}
		want(t, "Format", boxes.Format(newDisk(t, need), c[0], c[1], c[2]), api.OK)
	}
}

func TestFormatOfNoDisk(t *testing.T) {
	want(t, "Format", boxes.Format(nil, 96, 64, 3), api.ErrNil)
	want(t, "Format", boxes.Format(nil, 0, -1, 1000), api.ErrNil)
	s, e := boxes.Mount(nil)
	if want(t, "Mount", e, api.ErrNil); s != nil {
		t.Error("a store")
	}
}

func TestFormatAndMountWithoutPower(t *testing.T) {
	d := newDisk(t, 2+96+64+15)
	want(t, "Format", boxes.Format(d, 96, 64, 3), api.OK)
	d.Crash("")
	want(t, "Format", boxes.Format(d, 96, 64, 3), api.ErrDead)
	s, e := boxes.Mount(d)
	if want(t, "Mount", e, api.ErrDead); s != nil {
		t.Error("a store")
	}
	d.Start()
	mounted(t, d)
	for acts := range 200 { // the power goes within Format
		d.Fuse(acts, "")
		if e := boxes.Format(d, 96, 64, 3); e == api.OK {
			if acts < 64 {
				t.Fatalf("Format is done in %d acts", acts)
			}
			return
		}
		want(t, "Format", boxes.Format(d, 96, 64, 3), api.ErrDead)
		d.Start()
	}
	t.Fatal("Format is never done")
}

// A mount is cut at each act: then there is none, and the next one is as ahead.
func TestMountIsCut(t *testing.T) {
	s, w := sealedStore(t, 5, 2)
	was := diskOf(s).Copy()
	for acts := range 200 {
		for _, keep := range []string{"", "\xff\xff\xff", "\x05\x01"} {
			d := was.Copy()
			d.Fuse(acts, keep)
			s, e := boxes.Mount(d)
			if e == api.OK {
				if acts < 3 {
					t.Fatalf("Mount is done in %d acts", acts)
				}
				wantStore(t, s, w)
				return
			}
			if want(t, "Mount", e, api.ErrDead); s != nil || d.Alive() {
				t.Fatal("a store, or power")
			}
			d.Start()
			wantStore(t, mounted(t, d), w)
		}
	}
	t.Fatal("Mount is never done")
}

// wantNone fails unless a disk has no box store; it stays as it is.
func wantNone(t *testing.T, what string, d *disk.Disk) {
	t.Helper()
	wantUntouched(t, what, d, func() {
		if s, e := boxes.Mount(d); e != api.ErrSpoilt || s != nil {
			t.Errorf("%s: %v, a store: %v", what, e, s != nil)
		}
	})
}

func TestMountOfNotesThatAreNone(t *testing.T) {
	var notes []string
	for _, n := range []int{0, 1, 2, 201, 202, 255, 256, 256 + 3, 259, 768, 65535} {
		notes = append(notes, number(2, n))
	}
	notes = append(notes, "", "\x03", "\x00", "3", "\x00\x00\x03", "\x00\x03\x00", number(2, 3)+number(2, 3), "\x03\x00", "note", number(8, 3), number(4, 3), text(40))
	for _, note := range notes {
		d := newDisk(t, 2+96+64+5*200)
		want(t, "Format of a forest", forest.Format(d, 96, 64, note), api.OK)
		wantNone(t, "the note "+note, d)
	}
	for n := 3; n <= 200; n++ {
		d := newDisk(t, 2+96+64+5*200)
		want(t, "Format of a forest", forest.Format(d, 96, 64, number(2, n)), api.OK)
		if s := mounted(t, d); s.Len() != n {
			t.Fatalf("%d boxes; want %d", s.Len(), n)
		}
	}
}

func TestMountOfBoxesBeyondTheDisk(t *testing.T) {
	for _, n := range []int{3, 4, 100, 200} {
		need := 2 + 96 + 64 + 5*n
		for _, less := range []int{1, 4, 5, 15} {
			d := newDisk(t, need-less)
			want(t, "Format of a forest", forest.Format(d, 96, 64, number(2, n)), api.OK)
			wantNone(t, "too few sectors", d)
		}
		d := newDisk(t, need)
		want(t, "Format of a forest", forest.Format(d, 96, 64, number(2, n)), api.OK)
		mounted(t, d)
	}
}

func TestMountOfNoForest(t *testing.T) {
	wantNone(t, "a disk of bytes 0", newDisk(t, 300))
	wantNone(t, "a disk of one sector", newDisk(t, 1))
	s := newStore(t, 3)
	d := diskOf(s)
	b := d.Raw(2 + 96 + 1) // the page of the roots
	b[511] = 1
	want(t, "Write", d.Write(2+96+1, b), api.OK)
	want(t, "Flush", d.Flush(), api.OK)
	wantNone(t, "roots that are none", d)
}

func TestNil(t *testing.T) {
	var s *boxes.Store
	if s.Forest() != nil || s.Len() != 0 {
		t.Error("nil has a forest, or boxes")
	}
	for _, i := range append(noBoxes(3), 0, 1, 2) {
		if s.Sector(i) != -1 {
			t.Errorf("the box %d of nil is on a sector", i)
		}
		wantAnswers(t, answers(s, i), api.ErrNil)
		want(t, "Live", s.Live(i, lowest), api.ErrNil)
	}
	wantAnswers(t, answersOfAll(s), api.ErrNil)
	_, e := s.Append(api.Hash{}, text(5000), true)
	want(t, "Append of too much", e, api.ErrNil)
	_, _, e = s.Read(boxes.Loc{Box: -1, Off: -1, Len: -1})
	want(t, "Read", e, api.ErrNil)
}

// A store that is mounted once more has what the first one had.
func TestMountOnceMore(t *testing.T) {
	s, w := sealedStore(t, 6, 3)
	do(t, s, func() {
		want(t, "Live", s.Live(1, -30), w.lives(1, -30))
		want(t, "Live", s.Live(0, -w[0].live), w.lives(0, -w[0].live))
		want(t, "Release", s.Release(0), w.release(0))
	})
	for range 3 {
		s = mounted(t, diskOf(s))
		wantStore(t, s, w)
	}
}
