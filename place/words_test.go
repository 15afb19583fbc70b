package place_test

import (
	"cmp"
	"crypto/sha256"
	"encoding/binary"
	"fmt"
	"maps"
	"math/rand/v2"
	"slices"
	"strings"
	"testing"

	"armarium/api"
	"armarium/boxes"
	"armarium/disk"
	"armarium/forest"
	"armarium/place"
	"armarium/record"
)

const (
	greatest = int(^uint(0) >> 1)
	lowest   = -greatest - 1
)

// The chapter's words, written anew.

// number is a number's lowest so many bytes, the highest one first.
func number(width, n int) string {
	return string(binary.BigEndian.AppendUint64(nil, uint64(n))[8-width:])
}

// spotTold is where a record begins, as the tree Moved has it.
func spotTold(l boxes.Loc) string { return number(2, l.Box) + number(2, l.Off) }

// A box is as it must be.
type box struct {
	kind       uint8
	used, live int
	records    []record.Record
}

// told is what a store must have: its boxes by their numbers, and what the trees Places and Moved have.
type told struct {
	boxes  []box
	places map[api.Hash]boxes.Loc
	moved  map[string]boxes.Loc // by what spotTold tells of a place
}

func newTold(n int) *told {
	return &told{make([]box, n), map[api.Hash]boxes.Loc{}, map[string]boxes.Loc{}}
}

// copy goes its own way.
func (w *told) copy() *told {
	c := &told{slices.Clone(w.boxes), maps.Clone(w.places), maps.Clone(w.moved)}
	for i := range c.boxes {
		c.boxes[i].records = slices.Clone(c.boxes[i].records)
	}
	return c
}

func (w *told) count(kind uint8) int {
	n := 0
	for _, b := range w.boxes {
		if b.kind == kind {
			n++
		}
	}
	return n
}

// least is the box of a kind that has the least number, or -1.
func (w *told) least(kind uint8) int {
	return slices.IndexFunc(w.boxes, func(b box) bool { return b.kind == kind })
}

// append is what chapter 14 says of that, for data that are not too many.
func (w *told) append(h api.Hash, data string, moved bool) (boxes.Loc, api.Errno) {
	if !moved && w.count(boxes.Free) == 0 {
		return boxes.Loc{}, api.ErrFull
	}
	to := w.least(boxes.Open)
	if to < 0 || w.boxes[to].used+34+len(data) > 2048 {
		if w.count(boxes.Free) == 0 || !moved && w.count(boxes.Free) == 1 {
			return boxes.Loc{}, api.ErrFull
		}
		if to >= 0 {
			w.boxes[to].kind = boxes.Sealed
		}
		to = w.least(boxes.Free)
		w.boxes[to] = box{kind: boxes.Open}
	}
	b := &w.boxes[to]
	at := b.used
	b.records = append(b.records, record.Record{At: at, Hash: h, Data: data})
	b.used += 34 + len(data)
	b.live += 34 + len(data)
	return boxes.Loc{Box: to, Off: at, Len: len(data)}, api.OK
}

// lies is where a hash lies.
func (w *told) lies(h api.Hash) boxes.Loc {
	at := w.places[h]
	if to, is := w.moved[spotTold(at)]; is {
		return boxes.Loc{Box: to.Box, Off: to.Off, Len: at.Len}
	}
	return at
}

// data are those of the record where a hash lies.
func (w *told) data(h api.Hash) string {
	l := w.lies(h)
	for _, r := range w.boxes[l.Box].records {
		if r.At == l.Off {
			return r.Data
		}
	}
	return "there is no record"
}

func (w *told) drop(h api.Hash) api.Errno {
	at, is := w.places[h]
	if !is {
		return api.ErrNone
	}
	w.boxes[w.lies(h).Box].live -= 34 + at.Len
	delete(w.moved, spotTold(at))
	delete(w.places, h)
	return api.OK
}

func (w *told) move(h api.Hash) api.Errno {
	at, is := w.places[h]
	if !is {
		return api.ErrNone
	}
	if _, is := w.moved[spotTold(at)]; is {
		return api.ErrArg
	}
	to, e := w.append(h, w.data(h), true)
	if e != api.OK {
		return e
	}
	w.moved[spotTold(at)] = to
	w.boxes[at.Box].live -= 34 + at.Len
	return api.OK
}

func (w *told) settle() bool {
	if len(w.moved) == 0 {
		return false
	}
	first := slices.Min(slices.Collect(maps.Keys(w.moved)))
	for h, at := range w.places {
		if spotTold(at) == first {
			w.places[h] = w.lies(h)
			break
		}
	}
	delete(w.moved, first)
	return true
}

// release lets each box be free that may be, and into which nothing leads.
func (w *told) release(s *boxes.Store) api.Errno {
	for i, b := range w.boxes {
		led := slices.ContainsFunc(slices.Collect(maps.Values(w.places)), func(l boxes.Loc) bool { return l.Box == i })
		if b.kind != boxes.Sealed || b.live != 0 || led {
			continue
		}
		w.boxes[i] = box{}
		if e := s.Release(i); e != api.OK {
			return e
		}
	}
	return api.OK
}

// rising are the hashes that have places, by their bytes.
func (w *told) rising() []api.Hash {
	return slices.SortedFunc(maps.Keys(w.places), func(a, b api.Hash) int { return cmp.Compare(string(a[:]), string(b[:])) })
}

// entries are those of the trees Places, Moved and Boxes.
func (w *told) entries() map[int]map[string]string {
	m := map[int]map[string]string{forest.Places: {}, forest.Moved: {}, forest.Boxes: {}}
	for h, l := range w.places {
		m[forest.Places][string(h[:])] = number(2, l.Box) + number(2, l.Off) + number(2, l.Len)
	}
	for from, to := range w.moved {
		m[forest.Moved][from] = spotTold(to)
	}
	for i, b := range w.boxes {
		if b.kind != boxes.Free {
			m[forest.Boxes][number(2, i)] = number(1, int(b.kind)) + number(2, b.used) + number(2, b.live)
		}
	}
	return m
}

// The tests' helpers.

func want(t *testing.T, what string, got, want api.Errno) {
	t.Helper()
	if got != want {
		t.Fatalf("%s: %v; want %v", what, got, want)
	}
}

func text(n int) string { return strings.Repeat("t", n) }

func someText(r *rand.Rand, n int) string {
	b := make([]byte, n)
	for i := range b {
		b[i] = byte(r.Uint32())
	}
	return string(b)
}

func hashOf(data string) api.Hash { return sha256.Sum256([]byte(data)) }

func newDisk(t *testing.T, sectors int) *disk.Disk {
	t.Helper()
	d, e := disk.New(sectors)
	want(t, "New", e, api.OK)
	return d
}

func mounted(t *testing.T, d *disk.Disk) *boxes.Store {
	t.Helper()
	s, e := boxes.Mount(d)
	want(t, "Mount", e, api.OK)
	return s
}

// newStore answers the store of a new disk, and what it must have.
func newStore(t *testing.T, n int) (*boxes.Store, *told) {
	t.Helper()
	d := newDisk(t, 2+128+96+5*n)
	want(t, "Format", boxes.Format(d, 128, 96, n), api.OK)
	return mounted(t, d), newTold(n)
}

func diskOf(s *boxes.Store) *disk.Disk { return s.Forest().Store().Disk() }

// do does a change.
func do(t *testing.T, s *boxes.Store, change func()) {
	t.Helper()
	e := s.Forest().Do(func() api.Errno {
		change()
		return api.OK
	})
	want(t, "Do", e, api.OK)
}

// store lets data have a place, within a change, as a record that is new, or only moved; it answers the first error.
func store(s *boxes.Store, data string, moved bool) api.Errno {
	l, e := s.Append(hashOf(data), data, moved)
	if e != api.OK {
		return e
	}
	return place.Put(s, hashOf(data), l)
}

func (w *told) store(data string, moved bool) api.Errno {
	l, e := w.append(hashOf(data), data, moved)
	if e == api.OK {
		w.places[hashOf(data)] = l
	}
	return e
}

// stored lets data have places, each in a change of its own, and answers their hashes.
func stored(t *testing.T, s *boxes.Store, w *told, all ...string) []api.Hash {
	t.Helper()
	var l []api.Hash
	for _, data := range all {
		do(t, s, func() {
			want(t, "to store", w.store(data, true), api.OK)
			want(t, "to store", store(s, data, true), api.OK)
		})
		l = append(l, hashOf(data))
	}
	return l
}

func moveBoth(t *testing.T, s *boxes.Store, w *told, h api.Hash) {
	t.Helper()
	do(t, s, func() { want(t, "Move", place.Move(s, h), w.move(h)) })
}

func dropBoth(t *testing.T, s *boxes.Store, w *told, h api.Hash) {
	t.Helper()
	do(t, s, func() { want(t, "Drop", place.Drop(s, h), w.drop(h)) })
}

func settleBoth(t *testing.T, s *boxes.Store, w *told) bool {
	t.Helper()
	is := w.settle()
	do(t, s, func() {
		if got, e := place.Settle(s); got != is || e != api.OK {
			t.Fatalf("Settle: %v, %v; want %v", got, e, is)
		}
	})
	return is
}

// entriesOf are those of the trees Places, Moved and Boxes.
func entriesOf(t *testing.T, s *boxes.Store) map[int]map[string]string {
	t.Helper()
	m := map[int]map[string]string{}
	for _, tree := range []int{forest.Places, forest.Moved, forest.Boxes} {
		m[tree] = map[string]string{}
		want(t, "Each", s.Forest().Each(tree, func(key, val string) bool { m[tree][key] = val; return true }), api.OK)
	}
	return m
}

// putEntry lets a tree have an entry that need not be one.
func putEntry(t *testing.T, s *boxes.Store, tree int, key, val string) {
	t.Helper()
	do(t, s, func() { want(t, "Put", s.Forest().Put(tree, key, val), api.OK) })
}

// wantPlaces fails unless a store's trees, and all that Get and Each answer, are what is told.
func wantPlaces(t *testing.T, s *boxes.Store, w *told) {
	t.Helper()
	if got, told := entriesOf(t, s), w.entries(); fmt.Sprint(got) != fmt.Sprint(told) {
		t.Fatalf("the trees have %x; want %x", got, told)
	}
	hashes := w.rising()
	for _, h := range hashes {
		if l, e := place.Get(s, h); l != w.lies(h) || e != api.OK {
			t.Fatalf("Get of %x..: %v, %v; want %v", h[:4], l, e, w.lies(h))
		}
	}
	var all []api.Hash
	e := place.Each(s, func(h api.Hash, l boxes.Loc) bool {
		if l != w.places[h] {
			t.Fatalf("Each of %x..: %v; want %v", h[:4], l, w.places[h])
		}
		all = append(all, h)
		return true
	})
	if want(t, "Each", e, api.OK); !slices.Equal(all, hashes) {
		t.Fatalf("%d hashes are told; want %d", len(all), len(hashes))
	}
}

// wantStore fails unless a store, also within a change, is what is told, and each hash has its data.
func wantStore(t *testing.T, s *boxes.Store, w *told) {
	t.Helper()
	wantPlaces(t, s, w)
	for h := range w.places {
		if data, e := place.Data(s, h); hashOf(data) != h || e != api.OK {
			t.Fatalf("Data of %x..: %d bytes, %v", h[:4], len(data), e)
		}
	}
	for i, b := range w.boxes {
		if l, e := s.Records(i); e != api.OK || !slices.Equal(l, b.records) {
			t.Fatalf("the box %d: %v, %d records; want %d", i, e, len(l), len(b.records))
		}
	}
}

// sectorsOf are all sectors of a disk.
func sectorsOf(d *disk.Disk) []string {
	var l []string
	for at := range d.Len() {
		l = append(l, string(d.Raw(at)))
	}
	return l
}

// wantUntouched fails unless a call left the disk as it was, without any act.
func wantUntouched(t *testing.T, what string, d *disk.Disk, call func()) {
	t.Helper()
	was, acts, waiting := sectorsOf(d), d.Acts(), d.Waiting()
	call()
	if !slices.Equal(sectorsOf(d), was) || d.Acts() != acts || d.Waiting() != waiting {
		t.Fatalf("%s: the disk was touched: %d acts, %d wait", what, d.Acts()-acts, d.Waiting()-waiting)
	}
}

// wantRefused fails unless calls within a change answer an error each, touch nothing, and let the change go on.
func wantRefused(t *testing.T, s *boxes.Store, e api.Errno, calls ...func() api.Errno) {
	t.Helper()
	for i, call := range calls {
		wantUntouched(t, "what is refused", diskOf(s), func() {
			do(t, s, func() {
				want(t, fmt.Sprint("the call ", i), call(), e)
				if n := s.Forest().Store().Changed(); n != 0 {
					t.Fatalf("the call %d changed %d pages", i, n)
				}
			})
		})
	}
}

// spoil lets a byte of a box's room be another one.
func spoil(t *testing.T, s *boxes.Store, i, at int, by byte) {
	t.Helper()
	sector := s.Sector(i) + 1 + at/512
	b, e := diskOf(s).Read(sector)
	want(t, "Read", e, api.OK)
	b[at%512] ^= by
	want(t, "Write", diskOf(s).Write(sector, b), api.OK)
	want(t, "Flush", diskOf(s).Flush(), api.OK)
}

// The calls of a hash, by what they answer beside their errors.

func getOf(t *testing.T, s *boxes.Store, h api.Hash) func() api.Errno {
	return func() api.Errno {
		l, e := place.Get(s, h)
		if e != api.OK && l != (boxes.Loc{}) {
			t.Fatalf("Get: %v beside %v", l, e)
		}
		return e
	}
}

func dataOf(t *testing.T, s *boxes.Store, h api.Hash) func() api.Errno {
	return func() api.Errno {
		data, e := place.Data(s, h)
		if e != api.OK && data != "" {
			t.Fatalf("Data: %d bytes beside %v", len(data), e)
		}
		return e
	}
}

func dropOf(s *boxes.Store, h api.Hash) func() api.Errno {
	return func() api.Errno { return place.Drop(s, h) }
}

func moveOf(s *boxes.Store, h api.Hash) func() api.Errno {
	return func() api.Errno { return place.Move(s, h) }
}

func putOf(s *boxes.Store, h api.Hash, l boxes.Loc) func() api.Errno {
	return func() api.Errno { return place.Put(s, h, l) }
}

func settleOf(t *testing.T, s *boxes.Store) func() api.Errno {
	return func() api.Errno {
		is, e := place.Settle(s)
		if is != (e == api.OK) {
			t.Fatalf("Settle: %v beside %v", is, e)
		}
		return e
	}
}

func eachOf(s *boxes.Store) func() api.Errno {
	return func() api.Errno { return place.Each(s, func(api.Hash, boxes.Loc) bool { return true }) }
}
