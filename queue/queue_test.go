package queue_test

import (
	"maps"
	"slices"
	"strings"
	"testing"

	"armarium/api"
	"armarium/forest"
	"armarium/queue"
)

// P17.1

func TestTheChaptersExample(t *testing.T) {
	x := begun(t, nil, nil)
	a, b := item(0, 1, 2), item(1, 3, 1)
	do(t, x.f, func() {
		x.push(a)
		x.push(b)
		x.push(item(0, 1, 1))
	})
	if got, is, e := queue.First(x.f); got != b || !is || e != api.OK {
		t.Errorf("%v, %v, %v", got, is, e)
	}
	do(t, x.f, func() { x.drop(b) })
	if got, is, e := queue.First(x.f); got != item(0, 1, 3) || !is || e != api.OK {
		t.Errorf("%v, %v, %v", got, is, e)
	}
	do(t, x.f, func() { x.drop(a) })
	if got, is, e := queue.First(x.f); got != (queue.Item{}) || is || e != api.OK {
		t.Errorf("%v, %v, %v", got, is, e)
	}
	wantForest(t, x.f, x.w)
	if x.f.Store().Used() != 2 {
		t.Errorf("%d pages are used", x.f.Store().Used())
	}
}

func TestNothingIsThere(t *testing.T) {
	x := begun(t, nil, nil)
	for i, each := range []teller{queue.Each, queue.Holding} {
		want(t, "Each", each(x.f, func(queue.Item) bool { t.Error(i, "something is told"); return true }), api.OK)
	}
	for i := range 5 {
		if got, is, e := queue.Held(x.f, hash(i)); got != (queue.Item{}) || is || e != api.OK {
			t.Errorf("%v, %v, %v", got, is, e)
		}
	}
	do(t, x.f, func() { x.drop(item(0, 0, 1)) })
	wantForest(t, x.f, x.w)
}

// The higher ones are first, whatever their hashes are; of one height those of the lesser hashes are.
func TestOrder(t *testing.T) {
	least, greatest := api.Hash{}, api.Hash([]byte(strings.Repeat("\xff", 32)))
	x := both{t, newForest(t, 96, 128), newTold()}
	for height := range 256 {
		do(t, x.f, func() {
			x.push(queue.Item{Hash: greatest, Height: uint8(height), Times: 1})
			x.push(queue.Item{Hash: least, Height: uint8(255 - height), Times: 2})
		})
		if height%32 == 0 {
			wantForest(t, x.f, x.w)
		}
	}
	wantForest(t, x.f, x.w)
	var heights []int
	for len(x.w.queue) > 0 {
		first, is, e := queue.First(x.f)
		if !is || e != api.OK {
			t.Fatalf("First: %v, %v", is, e)
		}
		heights = append(heights, int(first.Height))
		if n := len(heights); (n%2 == 1) != (first.Hash == least) || int(first.Height) != 255-(n-1)/2 {
			t.Fatalf("the first one is %v, %d ones before it", first, n-1)
		}
		do(t, x.f, func() { x.drop(first) })
	}
	if len(heights) != 512 || !slices.IsSortedFunc(heights, func(a, b int) int { return b - a }) {
		t.Fatalf("the heights are %v", heights)
	}
	wantForest(t, x.f, x.w)
}

// A hash of another height is another one in the queue.
func TestOneHashOfTwoHeights(t *testing.T) {
	x := begun(t, []queue.Item{item(0, 3, 5), item(0, 4, 7), item(0, 3, 1)}, nil)
	do(t, x.f, func() { x.drop(item(0, 4, 1)) })
	wantForest(t, x.f, x.w)
	if got, _, _ := queue.First(x.f); got != item(0, 3, 6) {
		t.Errorf("%v", got)
	}
}

// Drop asks of an item its hash and its height alone.
func TestDrop(t *testing.T) {
	for _, times := range []uint32{0, 1, 4, 5, 6, most} {
		x := begun(t, []queue.Item{item(0, 3, 5), item(1, 3, 5)}, []queue.Item{item(0, 3, 5)})
		do(t, x.f, func() {
			x.drop(item(0, 2, times))
			x.drop(item(2, 3, times))
			wantNow(t, x.f, x.w)
			x.drop(item(0, 3, times))
			wantNow(t, x.f, x.w)
			x.drop(item(0, 3, times)) // it is there no more
		})
		wantForest(t, x.f, x.w)
		if got, _, _ := queue.First(x.f); got != item(1, 3, 5) {
			t.Errorf("%v", got)
		}
	}
}

// Numbers of all widths are told as they stand in the trees, the highest byte first.
func TestNumbers(t *testing.T) {
	x := begun(t, nil, nil)
	for i, n := range numbers() {
		do(t, x.f, func() {
			x.push(item(i, uint8(i*13), n))
			x.hold(item(i, uint8(255-i*13), n))
		})
		wantForest(t, x.f, x.w)
	}
	wantForest(t, opened(t, diskOf(x.f)), x.w)
	for i, n := range numbers() {
		if n == most {
			break
		}
		do(t, x.f, func() {
			want(t, "Push", x.push(item(i, uint8(i*13), most-n)), api.OK)
			want(t, "Hold", x.hold(item(i, 0, most-n)), api.OK)
		})
	}
	wantForest(t, x.f, x.w)
}

// The edges, in numbers: 1 and 2^32 - 1 may be, 0, and one more, may not.
func TestHowOftenMore(t *testing.T) {
	for _, y := range []struct {
		had, by, n uint32
		e          api.Errno
	}{
		{0, 0, 0, api.ErrArg},
		{0, 1, 1, api.OK},
		{0, 4294967295, 4294967295, api.OK},
		{1, 0, 1, api.ErrArg},
		{1, 1, 2, api.OK},
		{1, 4294967294, 4294967295, api.OK},
		{1, 4294967295, 1, api.ErrArg},
		{2147483648, 2147483647, 4294967295, api.OK},
		{2147483648, 2147483648, 2147483648, api.ErrArg},
		{4294967294, 1, 4294967295, api.OK},
		{4294967294, 2, 4294967294, api.ErrArg},
		{4294967295, 0, 4294967295, api.ErrArg},
		{4294967295, 1, 4294967295, api.ErrArg},
		{4294967295, 4294967295, 4294967295, api.ErrArg},
	} {
		f := newForest(t, 96, 64)
		if y.had > 0 {
			putQueued(t, f, item(0, 9, y.had))
			putHeld(t, f, item(0, 9, y.had))
		}
		do(t, f, func() {
			want(t, "Push", queue.Push(f, item(0, 9, y.by)), y.e)
			want(t, "Hold", queue.Hold(f, item(0, 9, y.by)), y.e)
		})
		first, isFirst, e := queue.First(f)
		want(t, "First", e, api.OK)
		held, isHeld, e := queue.Held(f, hash(0))
		want(t, "Held", e, api.OK)
		if first.Times != y.n || held.Times != y.n || isFirst != (y.n > 0) || isHeld != (y.n > 0) {
			t.Errorf("%d and %d: %v, %v; want %d", y.had, y.by, first, held, y.n)
		}
	}
}

// What is refused leaves the change as it was, and the change may go on.
func TestWhatIsRefused(t *testing.T) {
	x := begun(t, []queue.Item{item(0, 3, 5), item(1, 4, most)}, []queue.Item{item(0, 3, 5), item(1, 4, most)})
	wantRefused(t, x.f, api.ErrArg,
		pushOf(x.f, item(0, 3, 0)), pushOf(x.f, item(9, 3, 0)), pushOf(x.f, item(0, 3, most-4)), pushOf(x.f, item(1, 4, 1)),
		holdOf(x.f, item(0, 3, 0)), holdOf(x.f, item(9, 3, 0)), holdOf(x.f, item(0, 3, most-4)), holdOf(x.f, item(1, 4, 1)), holdOf(x.f, item(1, 5, 1)),
		unholdOf(x.f, hash(0), 0), unholdOf(x.f, hash(0), 6), unholdOf(x.f, hash(0), most), unholdOf(x.f, hash(9), 0), unholdOf(x.f, hash(9), 1),
		shiftOf(t, x.f, 0), shiftOf(t, x.f, -1), shiftOf(t, x.f, 2))
	do(t, x.f, func() {
		x.push(item(2, 5, 3))
		for range 2 {
			want(t, "Push", x.push(item(1, 4, 1)), api.ErrArg)
			want(t, "Hold", x.hold(item(1, 4, 1)), api.ErrArg)
			want(t, "Unhold", x.unhold(hash(0), 6), api.ErrArg)
			want(t, "Shift", x.shift(9), api.ErrArg)
			wantNow(t, x.f, x.w)
		}
		x.hold(item(2, 5, 3))
	})
	wantForest(t, x.f, x.w)
	wantForest(t, opened(t, diskOf(x.f)), x.w)
}

func TestEachStops(t *testing.T) {
	x := begun(t, nil, nil)
	for i := range 60 {
		do(t, x.f, func() {
			x.push(item(i, uint8(i*7%10), uint32(i+1)))
			x.hold(item(i, uint8(i*7%10), uint32(i+1)))
		})
	}
	for stop := range 62 {
		wantStopped(t, x.f, queue.Each, rising(x.w.queue), stop)
		wantStopped(t, x.f, queue.Holding, rising(x.w.held), stop)
	}
}

// wantStopped fails unless so many of all items are told, and no more, if who is told stops there.
func wantStopped(t *testing.T, f *forest.Forest, each teller, all []queue.Item, stop int) {
	t.Helper()
	var got []queue.Item
	e := each(f, func(x queue.Item) bool {
		got = append(got, x)
		return len(got) < stop
	})
	if n := min(max(stop, 1), len(all)); e != api.OK || !slices.Equal(got, all[:n]) {
		t.Fatalf("%v: %d are told; want %d", e, len(got), n)
	}
}

func TestNil(t *testing.T) {
	for i, call := range []func() api.Errno{
		pushOf(nil, item(0, 1, 1)), pushOf(nil, item(0, 1, 0)), dropOf(nil, item(0, 1, 1)), firstOf(t, nil), eachOf(nil),
		holdOf(nil, item(0, 1, 1)), holdOf(nil, item(0, 1, 0)), heldOf(t, nil, hash(0)), holdingOf(nil),
		unholdOf(nil, hash(0), 1), unholdOf(nil, hash(0), 0), shiftOf(t, nil, 1), shiftOf(t, nil, 0),
	} {
		if e := call(); e != api.ErrNil {
			t.Errorf("the call %d: %v", i, e)
		}
	}
	want(t, "Each of nothing to tell", queue.Each(nil, nil), api.ErrNil)
	want(t, "Holding of nothing to tell", queue.Holding(nil, nil), api.ErrNil)
}

// That there is nothing to tell is said ahead of all else.
func TestNothingToTell(t *testing.T) {
	x := begun(t, nil, nil)
	ask := func() {
		t.Helper()
		want(t, "Each", queue.Each(x.f, nil), api.ErrNil)
		want(t, "Holding", queue.Holding(x.f, nil), api.ErrNil)
	}
	ask()
	x = begun(t, []queue.Item{item(0, 1, 1)}, []queue.Item{item(0, 1, 1)})
	ask()
	do(t, x.f, ask)
	wantForest(t, x.f, x.w)
	putQueued(t, x.f, item(0, 1, 0))
	putHeld(t, x.f, item(0, 1, 0))
	ask()
	diskOf(x.f).Crash("")
	ask()
}

// An entry of 0 times is none's: who asks it, or all, hears so; of the others all is as it was.
func TestAnEntryOfZero(t *testing.T) {
	x := begun(t, nil, nil)
	for i := range 40 {
		do(t, x.f, func() { x.push(item(i, uint8(i%4), 5)) })
	}
	for at, y := range rising(x.w.queue) {
		none := y
		none.Times = 0
		putQueued(t, x.f, none)
		wantRefused(t, x.f, api.ErrSpoilt, eachOf(x.f), pushOf(x.f, y), pushOf(x.f, queue.Item{Hash: y.Hash, Height: y.Height, Times: most}))
		wantRefused(t, x.f, api.ErrArg, pushOf(x.f, none)) // ahead of ErrSpoilt
		wantTold(t, x.f, queue.Each, rising(x.w.queue)[:at])
		first, is, e := queue.First(x.f)
		if at == 0 {
			wantRefused(t, x.f, api.ErrSpoilt, firstOf(t, x.f))
		} else if first != rising(x.w.queue)[0] || !is || e != api.OK {
			t.Fatalf("First: %v, %v, %v", first, is, e)
		}
		do(t, x.f, func() {
			want(t, "Drop", queue.Drop(x.f, y), api.OK)
			want(t, "Push", queue.Push(x.f, y), api.OK)
		})
	}
	wantForest(t, x.f, x.w)
}

// wantTold fails unless just some items are told ahead of what is spoilt, and nothing is said of that if who is told stops at the last one.
func wantTold(t *testing.T, f *forest.Forest, each teller, l []queue.Item) {
	t.Helper()
	all, e := tellAll(f, each)
	if want(t, "Each", e, api.ErrSpoilt); !slices.Equal(all, l) {
		t.Fatalf("%d are told; want %d", len(all), len(l))
	}
	if len(l) > 0 {
		left := len(l)
		e := each(f, func(queue.Item) bool { left--; return left > 0 })
		want(t, "Each that stops", e, api.OK)
	}
}

// The other trees stay as they were, also where their keys are the same.
func TestOtherTrees(t *testing.T) {
	x := begun(t, nil, nil)
	h := hash(0)
	do(t, x.f, func() {
		want(t, "Put", x.f.Put(forest.Places, string(h[:]), "places"), api.OK)
		want(t, "Put", x.f.Put(forest.Counts, string(h[:]), "nums"), api.OK)
	})
	for range 2 {
		do(t, x.f, func() {
			x.push(item(0, 1, 4))
			wantNow(t, x.f, x.w)
			x.hold(item(0, 1, 4))
			wantNow(t, x.f, x.w)
			x.drop(item(0, 1, 4))
			wantNow(t, x.f, x.w)
			x.unhold(h, 2)
			wantNow(t, x.f, x.w)
			x.shift(1)
			wantNow(t, x.f, x.w)
		})
	}
	for tree, val := range map[int]string{forest.Places: "places", forest.Counts: "nums"} {
		if m := entriesOf(t, x.f, tree); !maps.Equal(m, map[string]string{string(h[:]): val}) {
			t.Fatalf("the tree %d has %x", tree, m)
		}
	}
}
