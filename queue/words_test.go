package queue_test

import (
	"encoding/binary"
	"fmt"
	"maps"
	"math/rand/v2"
	"slices"
	"strings"
	"testing"

	"armarium/api"
	"armarium/disk"
	"armarium/forest"
	"armarium/queue"
)

// most is the greatest number of times.
const most = 1<<32 - 1

// The chapter's words, written anew.

// told is what must stand in the queue, and what must be held, by the keys of their entries.
type told struct{ queue, held map[string]queue.Item }

func newTold() told { return told{map[string]queue.Item{}, map[string]queue.Item{}} }

func (w told) copy() told { return told{maps.Clone(w.queue), maps.Clone(w.held)} }

func queueKey(x queue.Item) string { return string([]byte{255 - x.Height}) + string(x.Hash[:]) }

func heldKey(h api.Hash) string { return string(h[:]) }

// more lets a map's item be there so often more.
func more(m map[string]queue.Item, key string, x queue.Item) api.Errno {
	had, is := m[key]
	sum := uint64(had.Times) + uint64(x.Times)
	if x.Times < 1 || sum > most {
		return api.ErrArg
	}
	if is {
		x.Height = had.Height
	}
	x.Times = uint32(sum)
	m[key] = x
	return api.OK
}

func (w told) push(x queue.Item) api.Errno { return more(w.queue, queueKey(x), x) }

func (w told) drop(x queue.Item) { delete(w.queue, queueKey(x)) }

func (w told) hold(x queue.Item) api.Errno { return more(w.held, heldKey(x.Hash), x) }

func (w told) unhold(h api.Hash, times uint32) api.Errno {
	x := w.held[heldKey(h)]
	if times < 1 || times > x.Times {
		return api.ErrArg
	}
	if x.Times -= times; x.Times == 0 {
		delete(w.held, heldKey(h))
	} else {
		w.held[heldKey(h)] = x
	}
	return api.OK
}

func (w told) shift(n int) (bool, api.Errno) {
	if n < 1 {
		return false, api.ErrArg
	}
	now := w.copy()
	for _, x := range rising(w.held) {
		if n--; n < 0 {
			break
		}
		if e := now.push(x); e != api.OK {
			return false, e
		}
		delete(now.held, heldKey(x.Hash))
	}
	clear(w.queue)
	clear(w.held)
	maps.Copy(w.queue, now.queue)
	maps.Copy(w.held, now.held)
	return len(w.held) > 0, api.OK
}

// rising are a map's items, by their keys.
func rising(m map[string]queue.Item) []queue.Item {
	var l []queue.Item
	for _, key := range slices.Sorted(maps.Keys(m)) {
		l = append(l, m[key])
	}
	return l
}

// entries are those of the trees Queue and Held.
func (w told) entries() (map[string]string, map[string]string) {
	queued, held := map[string]string{}, map[string]string{}
	for key, x := range w.queue {
		queued[key] = string(binary.BigEndian.AppendUint32(nil, x.Times))
	}
	for key, x := range w.held {
		held[key] = string(append(binary.BigEndian.AppendUint32(nil, x.Times), x.Height))
	}
	return queued, held
}

// same tells whether both are the same.
func (w told) same(other told) bool {
	return maps.Equal(w.queue, other.queue) && maps.Equal(w.held, other.held)
}

// The tests' helpers.

func want(t *testing.T, what string, got, want api.Errno) {
	t.Helper()
	if got != want {
		t.Fatalf("%s: %v; want %v", what, got, want)
	}
}

// hash answers some hash of a number.
func hash(n int) api.Hash {
	var h api.Hash
	r := rand.New(rand.NewPCG(17, uint64(n)))
	for i := range h {
		h[i] = byte(r.Uint32())
	}
	return h
}

func item(n int, height uint8, times uint32) queue.Item {
	return queue.Item{Hash: hash(n), Height: height, Times: times}
}

// newForest answers the forest of a new disk, with so many pages.
func newForest(t *testing.T, log, n int) *forest.Forest {
	t.Helper()
	d, e := disk.New(2 + log + n)
	want(t, "New", e, api.OK)
	want(t, "Format", forest.Format(d, log, n, ""), api.OK)
	return opened(t, d)
}

func opened(t *testing.T, d *disk.Disk) *forest.Forest {
	t.Helper()
	f, e := forest.Open(d)
	want(t, "Open", e, api.OK)
	return f
}

func diskOf(f *forest.Forest) *disk.Disk { return f.Store().Disk() }

// do does a change.
func do(t *testing.T, f *forest.Forest, change func()) {
	t.Helper()
	e := f.Do(func() api.Errno {
		change()
		return api.OK
	})
	want(t, "Do", e, api.OK)
}

// both is a forest, and what must stand there; what is done within a change is done to both, and answers the same.
type both struct {
	t *testing.T
	f *forest.Forest
	w told
}

func (x both) push(i queue.Item) api.Errno {
	x.t.Helper()
	e := x.w.push(i)
	want(x.t, fmt.Sprint("Push of ", i.Times), queue.Push(x.f, i), e)
	return e
}

func (x both) drop(i queue.Item) {
	x.t.Helper()
	x.w.drop(i)
	want(x.t, "Drop", queue.Drop(x.f, i), api.OK)
}

func (x both) hold(i queue.Item) api.Errno {
	x.t.Helper()
	e := x.w.hold(i)
	want(x.t, fmt.Sprint("Hold of ", i.Times), queue.Hold(x.f, i), e)
	return e
}

func (x both) unhold(h api.Hash, times uint32) api.Errno {
	x.t.Helper()
	e := x.w.unhold(h, times)
	want(x.t, fmt.Sprint("Unhold of ", times), queue.Unhold(x.f, h, times), e)
	return e
}

func (x both) shift(n int) api.Errno {
	x.t.Helper()
	left, e := x.w.shift(n)
	if got, said := queue.Shift(x.f, n); got != left || said != e {
		x.t.Fatalf("Shift of %d: %v, %v; want %v, %v", n, got, said, left, e)
	}
	return e
}

// begun answers a forest in which some stand in the queue, and others are held.
func begun(t *testing.T, queued, held []queue.Item) both {
	t.Helper()
	x := both{t, newForest(t, 96, 64), newTold()}
	do(t, x.f, func() {
		for _, i := range queued {
			want(t, "Push", x.push(i), api.OK)
		}
		for _, i := range held {
			want(t, "Hold", x.hold(i), api.OK)
		}
	})
	wantForest(t, x.f, x.w)
	return x
}

// entriesOf are those of one of a forest's trees.
func entriesOf(t *testing.T, f *forest.Forest, tree int) map[string]string {
	t.Helper()
	m := map[string]string{}
	want(t, "Each of a tree", f.Each(tree, func(key, val string) bool { m[key] = val; return true }), api.OK)
	return m
}

// putQueued lets the tree Queue have an entry that need not be one.
func putQueued(t *testing.T, f *forest.Forest, x queue.Item) {
	t.Helper()
	val := string(binary.BigEndian.AppendUint32(nil, x.Times))
	do(t, f, func() { want(t, "Put", f.Put(forest.Queue, queueKey(x), val), api.OK) })
}

// putHeld lets the tree Held have an entry that need not be one.
func putHeld(t *testing.T, f *forest.Forest, x queue.Item) {
	t.Helper()
	val := string(append(binary.BigEndian.AppendUint32(nil, x.Times), x.Height))
	do(t, f, func() { want(t, "Put", f.Put(forest.Held, heldKey(x.Hash), val), api.OK) })
}

// wantEntries fails unless the trees have just what is told.
func wantEntries(t *testing.T, f *forest.Forest, w told) {
	t.Helper()
	queued, held := w.entries()
	if got := entriesOf(t, f, forest.Queue); !maps.Equal(got, queued) {
		t.Fatalf("the tree Queue has %x; want %x", got, queued)
	}
	if got := entriesOf(t, f, forest.Held); !maps.Equal(got, held) {
		t.Fatalf("the tree Held has %x; want %x", got, held)
	}
}

// wantNow fails unless a forest, also within a change, answers in all what is told.
func wantNow(t *testing.T, f *forest.Forest, w told) {
	t.Helper()
	wantEntries(t, f, w)
	queued, held := rising(w.queue), rising(w.held)
	first, is, e := queue.First(f)
	if want(t, "First", e, api.OK); is != (len(queued) > 0) || is && first != queued[0] || !is && first != (queue.Item{}) {
		t.Fatalf("First: %v, %v", first, is)
	}
	for _, x := range held {
		if got, is, e := queue.Held(f, x.Hash); got != x || !is || e != api.OK {
			t.Fatalf("Held: %v, %v, %v; want %v", got, is, e, x)
		}
	}
	if got, e := tellAll(f, queue.Each); e != api.OK || !slices.Equal(got, queued) {
		t.Fatalf("Each: %v, %v; want %v", got, e, queued)
	}
	if got, e := tellAll(f, queue.Holding); e != api.OK || !slices.Equal(got, held) {
		t.Fatalf("Holding: %v, %v; want %v", got, e, held)
	}
}

// A teller is Each, or Holding.
type teller = func(f *forest.Forest, do func(x queue.Item) bool) api.Errno

// tellAll answers all that is told.
func tellAll(f *forest.Forest, each teller) ([]queue.Item, api.Errno) {
	var all []queue.Item
	e := each(f, func(x queue.Item) bool {
		all = append(all, x)
		return true
	})
	return all, e
}

// wantForest fails unless a forest, outside a change, is sound, and is what is told, and its other trees are empty.
func wantForest(t *testing.T, f *forest.Forest, w told) {
	t.Helper()
	wantNow(t, f, w)
	if n, e := f.Check(); n != [8]int{forest.Queue: len(w.queue), forest.Held: len(w.held)} || e != api.OK {
		t.Fatalf("Check: %v, %v; want %d and %d", n, e, len(w.queue), len(w.held))
	}
	if n := f.Store().Changed(); n != 0 {
		t.Fatalf("%d pages are changed", n)
	}
}

// sectorsOf are all sectors of a disk.
func sectorsOf(d *disk.Disk) []string {
	var l []string
	for at := range d.Len() {
		l = append(l, string(d.Raw(at)))
	}
	return l
}

// wantUntouched fails unless a call left the disk as it was, without any act.
func wantUntouched(t *testing.T, what string, d *disk.Disk, call func()) {
	t.Helper()
	was, acts, waiting := sectorsOf(d), d.Acts(), d.Waiting()
	call()
	if !slices.Equal(sectorsOf(d), was) || d.Acts() != acts || d.Waiting() != waiting {
		t.Fatalf("%s: the disk was touched: %d acts, %d wait", what, d.Acts()-acts, d.Waiting()-waiting)
	}
}

// wantRefused fails unless calls within a change answer an error each, touch nothing, and let the change go on.
func wantRefused(t *testing.T, f *forest.Forest, e api.Errno, calls ...func() api.Errno) {
	t.Helper()
	for i, call := range calls {
		wantUntouched(t, "what is refused", diskOf(f), func() {
			do(t, f, func() {
				want(t, fmt.Sprint("the call ", i), call(), e)
				if n := f.Store().Changed(); n != 0 {
					t.Fatalf("the call %d changed %d pages", i, n)
				}
			})
		})
	}
}

// The calls, which answer nothing beside their errors.

func pushOf(f *forest.Forest, x queue.Item) func() api.Errno {
	return func() api.Errno { return queue.Push(f, x) }
}

func dropOf(f *forest.Forest, x queue.Item) func() api.Errno {
	return func() api.Errno { return queue.Drop(f, x) }
}

func holdOf(f *forest.Forest, x queue.Item) func() api.Errno {
	return func() api.Errno { return queue.Hold(f, x) }
}

func unholdOf(f *forest.Forest, h api.Hash, times uint32) func() api.Errno {
	return func() api.Errno { return queue.Unhold(f, h, times) }
}

func firstOf(t *testing.T, f *forest.Forest) func() api.Errno {
	return func() api.Errno {
		x, is, e := queue.First(f)
		if e != api.OK && (is || x != (queue.Item{})) {
			t.Fatalf("First: %v, %v beside %v", x, is, e)
		}
		return e
	}
}

func heldOf(t *testing.T, f *forest.Forest, h api.Hash) func() api.Errno {
	return func() api.Errno {
		x, is, e := queue.Held(f, h)
		if e != api.OK && (is || x != (queue.Item{})) {
			t.Fatalf("Held: %v, %v beside %v", x, is, e)
		}
		return e
	}
}

func shiftOf(t *testing.T, f *forest.Forest, n int) func() api.Errno {
	return func() api.Errno {
		left, e := queue.Shift(f, n)
		if e != api.OK && left {
			t.Fatalf("Shift: %v beside %v", left, e)
		}
		return e
	}
}

func eachOf(f *forest.Forest) func() api.Errno {
	return func() api.Errno { _, e := tellAll(f, queue.Each); return e }
}

func holdingOf(f *forest.Forest) func() api.Errno {
	return func() api.Errno { _, e := tellAll(f, queue.Holding); return e }
}

// numbers are how often a hash may be there, at the edges of its bytes, and beside them.
func numbers() []uint32 {
	return []uint32{1, 2, 127, 128, 255, 256, 257, 65535, 65536, 65537, 1 << 24, 1<<24 + 1, 0x01020304, 0xfffefdfc, 1<<31 - 1, 1 << 31, 1<<31 + 1, 0xffff0000, most - 1, most}
}

// someBits keep nothing, all, or some of what waits.
func someBits(r *rand.Rand) string {
	if which := r.IntN(4); which < 2 {
		return strings.Repeat(string([]byte{[]byte{0, 0xff}[which]}), 16)
	}
	b := make([]byte, 16)
	for i := range b {
		b[i] = byte(r.Uint32())
	}
	return string(b)
}
