package boxes_test

import (
	"encoding/binary"
	"fmt"
	"hash/crc32"
	"math/rand/v2"
	"slices"
	"strings"
	"testing"

	"armarium/api"
	"armarium/boxes"
	"armarium/disk"
	"armarium/forest"
	"armarium/record"
)

const (
	greatest = int(^uint(0) >> 1)
	lowest   = -greatest - 1
)

// The chapter's words, written anew.

// number is a number's lowest so many bytes, the highest one first.
func number(width, n int) string {
	return string(binary.BigEndian.AppendUint64(nil, uint64(n))[8-width:])
}

func checksum(s string) int {
	return int(crc32.Checksum([]byte(s), crc32.MakeTable(crc32.Castagnoli)))
}

// recordTold are a record's bytes.
func recordTold(h api.Hash, data string) string { return string(h[:]) + number(2, len(data)) + data }

// headTold is the sector of a box's head.
func headTold(i int, records string) string {
	b := "BOX1" + number(2, i) + number(2, len(records)) + number(4, checksum(records))
	b += zeros(508 - len(b))
	return b + number(4, checksum(b))
}

// A box is as it must be.
type box struct {
	kind       uint8
	used, live int
	records    []record.Record
}

// told are all boxes, by their numbers.
type told []box

// copy goes its own way.
func (w told) copy() told {
	c := slices.Clone(w)
	for i := range c {
		c[i].records = slices.Clone(c[i].records)
	}
	return c
}

// count is how many boxes are of a kind.
func (w told) count(kind uint8) int {
	n := 0
	for _, b := range w {
		if b.kind == kind {
			n++
		}
	}
	return n
}

// least is the box of a kind that has the least number, or -1.
func (w told) least(kind uint8) int {
	return slices.IndexFunc(w, func(b box) bool { return b.kind == kind })
}

// bytes are those of a box's records.
func (b box) bytes() string {
	s := ""
	for _, r := range b.records {
		s += recordTold(r.Hash, r.Data)
	}
	return s
}

// append is what the chapter says of that.
func (w told) append(h api.Hash, data string, moved bool) (boxes.Loc, api.Errno) {
	if len(data) > 2014 {
		return boxes.Loc{}, api.ErrArg
	}
	if !moved && w.count(0) == 0 {
		return boxes.Loc{}, api.ErrFull
	}
	to := w.least(1)
	if to < 0 || w[to].used+34+len(data) > 2048 {
		if w.count(0) == 0 || !moved && w.count(0) == 1 {
			return boxes.Loc{}, api.ErrFull
		}
		if to >= 0 {
			w[to].kind = 2
		}
		to = w.least(0)
		w[to] = box{kind: 1}
	}
	b := &w[to]
	at := b.used
	b.records = append(slices.Clone(b.records), record.Record{At: at, Hash: h, Data: data})
	b.used += 34 + len(data)
	b.live += 34 + len(data)
	return boxes.Loc{Box: to, Off: at, Len: len(data)}, api.OK
}

// live is what the chapter says of that.
func (w told) lives(i, by int) api.Errno {
	if i < 0 || i >= len(w) || w[i].kind == 0 {
		return api.ErrArg
	}
	if by < -w[i].live || by > w[i].used-w[i].live {
		return api.ErrArg
	}
	w[i].live += by
	return api.OK
}

func (w told) release(i int) api.Errno {
	if i < 0 || i >= len(w) || w[i].kind != 2 || w[i].live != 0 {
		return api.ErrArg
	}
	w[i] = box{}
	return api.OK
}

func (w told) shut() bool {
	i := w.least(1)
	if i >= 0 {
		w[i].kind = 2
	}
	return i >= 0
}

// entries are those of the tree Boxes.
func (w told) entries() map[string]string {
	m := map[string]string{}
	for i, b := range w {
		if b.kind != 0 {
			m[number(2, i)] = number(1, int(b.kind)) + number(2, b.used) + number(2, b.live)
		}
	}
	return m
}

// The tests' helpers.

func want(t *testing.T, what string, got, want api.Errno) {
	t.Helper()
	if got != want {
		t.Fatalf("%s: %v; want %v", what, got, want)
	}
}

func zeros(n int) string { return strings.Repeat("\x00", n) }

func text(n int) string { return strings.Repeat("t", n) }

func someText(r *rand.Rand, n int) string {
	b := make([]byte, n)
	for i := range b {
		b[i] = byte(r.Uint32())
	}
	return string(b)
}

func someHash(r *rand.Rand) api.Hash { return api.Hash([]byte(someText(r, 32))) }

func newDisk(t *testing.T, sectors int) *disk.Disk {
	t.Helper()
	d, e := disk.New(sectors)
	want(t, "New", e, api.OK)
	return d
}

func mounted(t *testing.T, d *disk.Disk) *boxes.Store {
	t.Helper()
	s, e := boxes.Mount(d)
	if want(t, "Mount", e, api.OK); s == nil {
		t.Fatal("no store")
	}
	return s
}

// newStore answers the store of a new disk of just so many sectors as it needs, each of which has bytes of its own ahead of that.
func newStore(t *testing.T, n int) *boxes.Store {
	t.Helper()
	d := newDisk(t, 2+96+64+5*n)
	fill(t, d, 2+96+64)
	want(t, "Format", boxes.Format(d, 96, 64, n), api.OK)
	return mounted(t, d)
}

// fill lets all sectors from one on have bytes of their own.
func fill(t *testing.T, d *disk.Disk, from int) {
	t.Helper()
	r := rand.New(rand.NewPCG(14, uint64(from)))
	for at := from; at < d.Len(); at++ {
		want(t, "Write", d.Write(at, []byte(someText(r, 512))), api.OK)
	}
	want(t, "Flush", d.Flush(), api.OK)
}

func diskOf(s *boxes.Store) *disk.Disk { return s.Forest().Store().Disk() }

// do does a change.
func do(t *testing.T, s *boxes.Store, change func()) {
	t.Helper()
	e := s.Forest().Do(func() api.Errno {
		change()
		return api.OK
	})
	want(t, "Do", e, api.OK)
}

// appendBoth appends a record to a store, and to what is told, within a change.
func appendBoth(t *testing.T, s *boxes.Store, w told, h api.Hash, data string, moved bool) (boxes.Loc, api.Errno) {
	t.Helper()
	was, wantE := w.append(h, data, moved)
	l, e := s.Append(h, data, moved)
	if l != was || e != wantE {
		t.Fatalf("Append of %d bytes, moved %v: %v, %v; want %v, %v", len(data), moved, l, e, was, wantE)
	}
	return l, e
}

// appended appends a record in a change of its own.
func appended(t *testing.T, s *boxes.Store, w told, data string, moved bool) boxes.Loc {
	t.Helper()
	var l boxes.Loc
	do(t, s, func() {
		var e api.Errno
		l, e = appendBoth(t, s, w, api.Hash{byte(len(data)), byte(w.count(0))}, data, moved)
		want(t, "Append", e, api.OK)
	})
	return l
}

// sealedStore answers a store of so many boxes, of which so many are sealed, with two records each, and one more is open.
func sealedStore(t *testing.T, n, sealed int) (*boxes.Store, told) {
	t.Helper()
	s, w := newStore(t, n), make(told, n)
	for range sealed {
		appended(t, s, w, text(1000), true)
		appended(t, s, w, text(900), true)
	}
	appended(t, s, w, text(200), true)
	wantStore(t, s, w)
	return s, w
}

// entriesOf are those of the tree Boxes.
func entriesOf(t *testing.T, s *boxes.Store) map[string]string {
	t.Helper()
	m := map[string]string{}
	want(t, "Each", s.Forest().Each(forest.Boxes, func(key, val string) bool { m[key] = val; return true }), api.OK)
	return m
}

// putEntry lets the tree Boxes have an entry that need not be one.
func putEntry(t *testing.T, s *boxes.Store, i int, val string) {
	t.Helper()
	do(t, s, func() { want(t, "Put", s.Forest().Put(forest.Boxes, number(2, i), val), api.OK) })
}

// wantStore fails unless a store, also within a change, answers in all what is told.
func wantStore(t *testing.T, s *boxes.Store, w told) {
	t.Helper()
	if got, told := entriesOf(t, s), w.entries(); fmt.Sprint(got) != fmt.Sprint(told) {
		t.Fatalf("the tree has %q; want %q", got, told)
	}
	for kind := range uint8(3) {
		if n, e := s.Count(kind); n != w.count(kind) || e != api.OK {
			t.Fatalf("%d boxes of the kind %d, %v; want %d", n, kind, e, w.count(kind))
		}
	}
	for i, b := range w {
		wantBox(t, s, i, b)
	}
}

// wantBox fails unless a box, its records and, if it is sealed, its head are what is told.
func wantBox(t *testing.T, s *boxes.Store, i int, b box) {
	t.Helper()
	if x, e := s.State(i); x != (boxes.State{Kind: b.kind, Used: b.used, Live: b.live}) || e != api.OK {
		t.Fatalf("the box %d: %v, %v; want %v", i, x, e, b)
	}
	if l, e := s.Records(i); e != api.OK || !slices.Equal(l, b.records) {
		t.Fatalf("the box %d: %v, %d records; want %d", i, e, len(l), len(b.records))
	}
	for _, r := range b.records {
		if h, data, e := s.Read(boxes.Loc{Box: i, Off: r.At, Len: len(r.Data)}); h != r.Hash || data != r.Data || e != api.OK {
			t.Fatalf("the box %d, at %d: %v, %d bytes; want %d", i, r.At, e, len(data), len(r.Data))
		}
	}
	if b.kind == boxes.Sealed && string(diskOf(s).Raw(s.Sector(i))) != headTold(i, b.bytes()) {
		t.Fatalf("the box %d has the head % x", i, diskOf(s).Raw(s.Sector(i))[:16])
	}
}

// sectorsOf are all sectors of a disk.
func sectorsOf(d *disk.Disk) []string {
	var l []string
	for at := range d.Len() {
		l = append(l, string(d.Raw(at)))
	}
	return l
}

// wantUntouched fails unless a call left the disk as it was, without any act.
func wantUntouched(t *testing.T, what string, d *disk.Disk, call func()) {
	t.Helper()
	was, acts, waiting := sectorsOf(d), d.Acts(), d.Waiting()
	call()
	if !slices.Equal(sectorsOf(d), was) || d.Acts() != acts || d.Waiting() != waiting {
		t.Fatalf("%s: the disk was touched: %d acts, %d wait", what, d.Acts()-acts, d.Waiting()-waiting)
	}
}

// An answer is what a call answers beside its error, and the error.
type answer struct {
	what string
	zero bool
	e    api.Errno
}

// answers are those of all calls on a box that answer an error, within a change or not.
func answers(s *boxes.Store, i int) []answer {
	var l []answer
	add := func(what string, zero bool, e api.Errno) { l = append(l, answer{what, zero, e}) }
	x, e := s.State(i)
	add("State", x == boxes.State{}, e)
	add("Live", true, s.Live(i, 0))
	add("Release", true, s.Release(i))
	rs, e := s.Records(i)
	add("Records", len(rs) == 0, e)
	h, data, e := s.Read(boxes.Loc{Box: i})
	add("Read", h == api.Hash{} && data == "", e)
	return l
}

// answersOfAll are those of the calls on all boxes.
func answersOfAll(s *boxes.Store) []answer {
	var l []answer
	for kind := range uint8(4) {
		n, e := s.Count(kind)
		l = append(l, answer{fmt.Sprint("Count of ", kind), n == 0, e})
	}
	for _, moved := range []bool{false, true} {
		at, e := s.Append(api.Hash{1}, "ab", moved)
		l = append(l, answer{"Append", at == boxes.Loc{}, e})
	}
	is, e := s.Shut()
	return append(l, answer{"Shut", !is, e})
}

// wantAnswers fails unless all calls answer that error, and nothing else.
func wantAnswers(t *testing.T, l []answer, e api.Errno) {
	t.Helper()
	for _, x := range l {
		if want(t, x.what, x.e, e); !x.zero {
			t.Fatalf("%s: %v, and something else", x.what, e)
		}
	}
}
