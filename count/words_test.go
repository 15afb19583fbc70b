package count_test

import (
	"cmp"
	"encoding/binary"
	"fmt"
	"maps"
	"math"
	"math/rand/v2"
	"slices"
	"strings"
	"testing"

	"armarium/api"
	"armarium/count"
	"armarium/disk"
	"armarium/forest"
)

// most is the greatest number of references.
const most = 1<<32 - 1

// The chapter's words, written anew.

// told is how many references each stored hash must have.
type told map[api.Hash]uint64

// add is what the chapter says of that. What is added is told by its size, so that no sum goes round.
func (w told) add(h api.Hash, by int64) (uint32, api.Errno) {
	n := w[h]
	if by < 0 {
		less := uint64(-(by + 1)) + 1
		if less > n {
			return 0, api.ErrArg
		}
		n -= less
	} else {
		n += uint64(by)
	}
	if n > most {
		return 0, api.ErrArg
	}
	if w[h] = n; n == 0 {
		delete(w, h)
	}
	return uint32(n), api.OK
}

// rising are the stored hashes, by their bytes.
func (w told) rising() []api.Hash {
	return slices.SortedFunc(maps.Keys(w), func(a, b api.Hash) int { return cmp.Compare(string(a[:]), string(b[:])) })
}

// entries are those of the tree Counts.
func (w told) entries() map[string]string {
	m := map[string]string{}
	for h, n := range w {
		m[string(h[:])] = string(binary.BigEndian.AppendUint32(nil, uint32(n)))
	}
	return m
}

// The tests' helpers.

func want(t *testing.T, what string, got, want api.Errno) {
	t.Helper()
	if got != want {
		t.Fatalf("%s: %v; want %v", what, got, want)
	}
}

// hash answers some hash of a number.
func hash(n int) api.Hash {
	var h api.Hash
	r := rand.New(rand.NewPCG(16, uint64(n)))
	for i := range h {
		h[i] = byte(r.Uint32())
	}
	return h
}

// newForest answers the forest of a new disk, with so many pages.
func newForest(t *testing.T, log, n int) *forest.Forest {
	t.Helper()
	d, e := disk.New(2 + log + n)
	want(t, "New", e, api.OK)
	want(t, "Format", forest.Format(d, log, n, ""), api.OK)
	return opened(t, d)
}

func opened(t *testing.T, d *disk.Disk) *forest.Forest {
	t.Helper()
	f, e := forest.Open(d)
	want(t, "Open", e, api.OK)
	return f
}

func diskOf(f *forest.Forest) *disk.Disk { return f.Store().Disk() }

// do does a change.
func do(t *testing.T, f *forest.Forest, change func()) {
	t.Helper()
	e := f.Do(func() api.Errno {
		change()
		return api.OK
	})
	want(t, "Do", e, api.OK)
}

// addBoth adds, within a change, to a forest and to what is told, and fails unless both answer the same.
func addBoth(t *testing.T, f *forest.Forest, w told, h api.Hash, by int64) api.Errno {
	t.Helper()
	had := w[h]
	n, e := w.add(h, by)
	if got, said := count.Add(f, h, by); got != n || said != e {
		t.Fatalf("Add of %d to %d: %d, %v; want %d, %v", by, had, got, said, n, e)
	}
	return e
}

// added answers a forest with the numbers of some hashes, each added in a change of its own.
func added(t *testing.T, numbers ...int64) (*forest.Forest, told) {
	t.Helper()
	f, w := newForest(t, 96, 64), told{}
	for i, n := range numbers {
		do(t, f, func() { addBoth(t, f, w, hash(i), n) })
	}
	wantForest(t, f, w)
	return f, w
}

// entriesOf are those of one of a forest's trees.
func entriesOf(t *testing.T, f *forest.Forest, tree int) map[string]string {
	t.Helper()
	m := map[string]string{}
	want(t, "Each of a tree", f.Each(tree, func(key, val string) bool { m[key] = val; return true }), api.OK)
	return m
}

// putEntry lets the tree Counts have an entry that need not be one.
func putEntry(t *testing.T, f *forest.Forest, h api.Hash, n uint32) {
	t.Helper()
	val := string(binary.BigEndian.AppendUint32(nil, n))
	do(t, f, func() { want(t, "Put", f.Put(forest.Counts, string(h[:]), val), api.OK) })
}

// wantNow fails unless a forest, also within a change, answers in all what is told.
func wantNow(t *testing.T, f *forest.Forest, w told) {
	t.Helper()
	if got, all := entriesOf(t, f, forest.Counts), w.entries(); !maps.Equal(got, all) {
		t.Fatalf("the tree has %x; want %x", got, all)
	}
	for h, n := range w {
		if got, e := count.Get(f, h); uint64(got) != n || e != api.OK {
			t.Fatalf("Get of %x..: %d, %v; want %d", h[:4], got, e, n)
		}
	}
	if n, e := count.Stored(f); n != len(w) || e != api.OK {
		t.Fatalf("Stored: %d, %v; want %d", n, e, len(w))
	}
	var all []api.Hash
	e := count.Each(f, func(h api.Hash, n uint32) bool {
		if uint64(n) != w[h] {
			t.Fatalf("Each tells %d of %x..; want %d", n, h[:4], w[h])
		}
		all = append(all, h)
		return true
	})
	if want(t, "Each", e, api.OK); !slices.Equal(all, w.rising()) {
		t.Fatalf("%d hashes are told; want %d", len(all), len(w))
	}
}

// wantForest fails unless a forest, outside a change, is sound, and is what is told, and its other trees are empty.
func wantForest(t *testing.T, f *forest.Forest, w told) {
	t.Helper()
	wantNow(t, f, w)
	if n, e := f.Check(); n != [8]int{forest.Counts: len(w)} || e != api.OK {
		t.Fatalf("Check: %v, %v; want %d of the first", n, e, len(w))
	}
	if n := f.Store().Changed(); n != 0 {
		t.Fatalf("%d pages are changed", n)
	}
}

// sectorsOf are all sectors of a disk.
func sectorsOf(d *disk.Disk) []string {
	var l []string
	for at := range d.Len() {
		l = append(l, string(d.Raw(at)))
	}
	return l
}

// wantUntouched fails unless a call left the disk as it was, without any act.
func wantUntouched(t *testing.T, what string, d *disk.Disk, call func()) {
	t.Helper()
	was, acts, waiting := sectorsOf(d), d.Acts(), d.Waiting()
	call()
	if !slices.Equal(sectorsOf(d), was) || d.Acts() != acts || d.Waiting() != waiting {
		t.Fatalf("%s: the disk was touched: %d acts, %d wait", what, d.Acts()-acts, d.Waiting()-waiting)
	}
}

// wantRefused fails unless calls within a change answer an error each, touch nothing, and let the change go on.
func wantRefused(t *testing.T, f *forest.Forest, e api.Errno, calls ...func() api.Errno) {
	t.Helper()
	for i, call := range calls {
		wantUntouched(t, "what is refused", diskOf(f), func() {
			do(t, f, func() {
				want(t, fmt.Sprint("the call ", i), call(), e)
				if n := f.Store().Changed(); n != 0 {
					t.Fatalf("the call %d changed %d pages", i, n)
				}
			})
		})
	}
}

// The calls, which answer nothing beside their errors.

func getOf(t *testing.T, f *forest.Forest, h api.Hash) func() api.Errno {
	return func() api.Errno {
		n, e := count.Get(f, h)
		if e != api.OK && n != 0 {
			t.Fatalf("Get: %d beside %v", n, e)
		}
		return e
	}
}

func addOf(t *testing.T, f *forest.Forest, h api.Hash, by int64) func() api.Errno {
	return func() api.Errno {
		n, e := count.Add(f, h, by)
		if e != api.OK && n != 0 {
			t.Fatalf("Add: %d beside %v", n, e)
		}
		return e
	}
}

func storedOf(t *testing.T, f *forest.Forest) func() api.Errno {
	return func() api.Errno {
		n, e := count.Stored(f)
		if e != api.OK && n != 0 {
			t.Fatalf("Stored: %d beside %v", n, e)
		}
		return e
	}
}

func eachOf(f *forest.Forest) func() api.Errno {
	return func() api.Errno { return count.Each(f, func(api.Hash, uint32) bool { return true }) }
}

// numbers are how many references a hash may have, at the edges of its bytes, and beside them.
func numbers() []int64 {
	return []int64{0, 1, 2, 127, 128, 255, 256, 257, 65534, 65535, 65536, 65537, 1 << 24, 1<<24 + 1, 0x01020304, 0xfffefdfc, 1<<31 - 1, 1 << 31, 1<<31 + 1, 0xffff0000, most - 1, most}
}

// anyBy are numbers of all kinds that may be added, or not.
func anyBy() []int64 {
	l := []int64{most + 1, most + 2, 1 << 33, 1<<33 + 1, 1 << 62, math.MaxInt64 - most, math.MaxInt64 - 1, math.MaxInt64, math.MinInt64, math.MinInt64 + 1, math.MinInt64 + most}
	for _, n := range numbers() {
		l = append(l, n, -n, -n-1, n-most, most-n+1)
	}
	return l
}

// someBits keep nothing, all, or some of what waits.
func someBits(r *rand.Rand) string {
	if which := r.IntN(4); which < 2 {
		return strings.Repeat(string([]byte{[]byte{0, 0xff}[which]}), 16)
	}
	b := make([]byte, 16)
	for i := range b {
		b[i] = byte(r.Uint32())
	}
	return string(b)
}
