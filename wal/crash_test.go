package wal_test

import (
	"fmt"
	"math/rand/v2"
	"slices"
	"testing"

	"armarium/api"
	"armarium/disk"
	"armarium/wal"
)

// P6.5

// cut lets the power go behind so many acts of a call, with these bits, and come again.
func cut(t *testing.T, d *disk.Disk, acts int, keep string, call func() api.Errno) {
	t.Helper()
	want(t, "Fuse", d.Fuse(acts, keep), api.OK)
	want(t, "a call that is cut", call(), api.ErrDead)
	want(t, "Start", d.Start(), api.OK)
}

// A text of four sheets is cut at each act, with each subset of what waits: it is there, if all of it is.
func TestACommitIsCut(t *testing.T) {
	long := textOf("new", 4)
	for acts := range 5 {
		for keep := range 1 << acts {
			d, l := trimmed(t, 98, 96, "")
			want(t, "Commit", l.Commit("a"), api.OK)
			want(t, "Commit", l.Commit("b"), api.OK)
			cut(t, d, acts, string([]byte{byte(keep)}), func() api.Errno { return l.Commit(long) })
			if keep == 15 {
				wantTexts(t, d, "a", "b", long)
			} else {
				wantTexts(t, d, "a", "b")
			}
		}
	}
}

// What is left of a text that was lost stands behind, ahead of, and amid a next one's sheets, and plays no part.
func TestALostTextNeverComesBack(t *testing.T) {
	lost, next := textOf("lost", 4), textOf("next", 4)
	for first := range 15 {
		for second := range 16 {
			d, l := trimmed(t, 98, 96, "")
			cut(t, d, 4, string([]byte{byte(first)}), func() api.Errno { return l.Commit(lost) })
			l, texts := opened(t, d)
			if len(texts) != 0 {
				t.Fatalf("of a part %04b: %.40q", first, texts)
			}
			want(t, "Trim", l.Trim(), api.OK)
			cut(t, d, 4, string([]byte{byte(second)}), func() api.Errno { return l.Commit(next) })
			if second == 15 {
				wantTexts(t, d, next)
			} else {
				wantTexts(t, d)
			}
		}
	}
}

// A Trim that is cut, the first one or a later one, leaves all texts, or none.
func TestATrimIsCut(t *testing.T) {
	for _, again := range []bool{false, true} {
		for acts, keeps := range []string{"\xff", "\x00", "\x01"} {
			d, l := trimmed(t, 98, 96, "")
			want(t, "Commit", l.Commit("a"), api.OK)
			want(t, "Commit", l.Commit(textOf("b", 3)), api.OK)
			if again {
				l, _ = opened(t, d)
			}
			cut(t, d, min(acts, 1), keeps, l.Trim)
			if acts < 2 {
				wantTexts(t, d, "a", textOf("b", 3))
			} else {
				wantTexts(t, d)
			}
		}
	}
}

// A run is a disk, its log, and what the texts of the log must be.
type run struct {
	r     *rand.Rand
	d     *disk.Disk
	l     *wal.Log
	texts []string
	count int
}

// next is a text that no other one is like.
func (x *run) next() string {
	x.count++
	text := textOf(fmt.Sprint(x.count, "."), 1+x.r.IntN(12))
	return text[:x.r.IntN(len(text)+1)]
}

// step does one act, that the power may cut, and answers what texts there may be behind it, if it was.
func (x *run) step() (api.Errno, [][]string) {
	switch x.r.IntN(10) {
	case 0:
		may := [][]string{x.texts, nil}
		return x.did(wal.Format(x.d, 96+x.r.IntN(3), ""), nil, true), may
	case 1, 2:
		may := [][]string{x.texts, nil}
		return x.did(x.l.Trim(), nil, false), may
	default:
		text := x.next()
		more := append(slices.Clone(x.texts), text)
		return x.did(x.l.Commit(text), more, false), [][]string{x.texts, more}
	}
}

// did keeps what the texts are now, if a call was done. What is formatted is opened anew.
func (x *run) did(e api.Errno, texts []string, open bool) api.Errno {
	if e == api.OK {
		x.texts = texts
	}
	if e == api.OK && open {
		x.l, _, e = wal.Open(x.d)
	}
	return e
}

// come lets the power come again, and opens the log, whose texts must be among these.
func (x *run) come(t *testing.T, may [][]string) {
	t.Helper()
	want(t, "Start", x.d.Start(), api.OK)
	x.l, x.texts = opened(t, x.d)
	if !slices.ContainsFunc(may, func(l []string) bool { return slices.Equal(l, x.texts) }) {
		t.Fatalf("the texts are %.20q; may be %.20q", x.texts, may)
	}
}

func TestPowerGoesAnywhere(t *testing.T) {
	for seed := range uint64(60) {
		x := &run{r: rand.New(rand.NewPCG(6, seed)), d: newDisk(t, 100)}
		want(t, "Format", wal.Format(x.d, 96, ""), api.OK)
		x.come(t, [][]string{nil})
		for range 60 {
			if x.r.IntN(4) == 0 {
				keep := []byte{byte(x.r.Uint32()), byte(x.r.Uint32()) | byte(x.r.Uint32())}
				x.d.Fuse(x.r.IntN(14), string(keep))
			}
			e, may := x.step()
			if e == api.ErrDead {
				x.come(t, may)
				continue
			}
			if e != api.OK && e != api.ErrFull {
				t.Fatal(e)
			}
			if x.r.IntN(6) == 0 {
				if x.d.Crash("") == api.OK {
					x.come(t, [][]string{x.texts})
				}
			}
		}
	}
}
