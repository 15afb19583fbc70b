package queue_test

import (
	"fmt"
	"math"
	"strings"
	"testing"

	"armarium/api"
	"armarium/forest"
	"armarium/queue"
)

// P17.2

// The height is the one that was held first, till the hash is held no more.
func TestTheHeightThatWasHeldFirst(t *testing.T) {
	for _, heights := range [][2]uint8{{0, 1}, {1, 0}, {0, 255}, {255, 0}, {7, 7}, {128, 127}} {
		x := begun(t, nil, []queue.Item{item(0, heights[0], 2), item(0, heights[1], 3)})
		if got, is, e := queue.Held(x.f, hash(0)); got != item(0, heights[0], 5) || !is || e != api.OK {
			t.Fatalf("%v, %v, %v", got, is, e)
		}
		do(t, x.f, func() { x.unhold(hash(0), 4) })
		if got, _, _ := queue.Held(x.f, hash(0)); got != item(0, heights[0], 1) {
			t.Fatalf("%v", got)
		}
		do(t, x.f, func() { x.unhold(hash(0), 1) })
		if got, is, e := queue.Held(x.f, hash(0)); got != (queue.Item{}) || is || e != api.OK {
			t.Fatalf("%v, %v, %v", got, is, e)
		}
		do(t, x.f, func() { x.hold(item(0, heights[1], 6)) })
		if got, _, _ := queue.Held(x.f, hash(0)); got != item(0, heights[1], 6) {
			t.Fatalf("%v", got)
		}
		wantForest(t, x.f, x.w)
	}
}

func TestUnhold(t *testing.T) {
	for _, had := range numbers() {
		for _, by := range append(numbers(), 0) {
			x := begun(t, []queue.Item{item(0, 6, 3)}, []queue.Item{item(0, 6, had), item(1, 6, 8)})
			do(t, x.f, func() {
				x.unhold(hash(0), by)
				wantNow(t, x.f, x.w)
			})
			wantForest(t, x.f, x.w)
		}
	}
}

// A hash that is not held is not, however much it is like one that is.
func TestHashesThatAreNear(t *testing.T) {
	x := both{t, newForest(t, 96, 128), newTold()}
	do(t, x.f, func() { x.hold(item(0, 1, 7)) })
	for bit := range 256 {
		near := hash(0)
		near[bit/8] ^= 1 << (bit % 8)
		if got, is, e := queue.Held(x.f, near); got != (queue.Item{}) || is || e != api.OK {
			t.Fatalf("%v, %v, %v", got, is, e)
		}
		do(t, x.f, func() {
			want(t, "Unhold", x.unhold(near, 1), api.ErrArg)
			x.hold(queue.Item{Hash: near, Height: uint8(bit), Times: uint32(bit + 1)})
			x.push(queue.Item{Hash: near, Height: 9, Times: uint32(bit + 1)})
		})
	}
	wantForest(t, x.f, x.w)
}

// The least hash, and the greatest one, are held, and shifted, as all others.
func TestHashesAtTheEnds(t *testing.T) {
	least, greatest := api.Hash{}, api.Hash([]byte(strings.Repeat("\xff", 32)))
	x := begun(t, nil, []queue.Item{{Hash: greatest, Height: 255, Times: 3}, item(0, 1, 1), {Hash: least, Height: 0, Times: 4}})
	do(t, x.f, func() { x.shift(1) })
	if got, _, _ := queue.First(x.f); got != (queue.Item{Hash: least, Height: 0, Times: 4}) {
		t.Fatalf("%v", got)
	}
	do(t, x.f, func() { x.shift(1) })
	do(t, x.f, func() { x.shift(1) })
	if got, _, _ := queue.First(x.f); got != (queue.Item{Hash: greatest, Height: 255, Times: 3}) {
		t.Fatalf("%v", got)
	}
	wantForest(t, x.f, x.w)
}

// An entry of 0 times is none's: who asks it, or all, hears so; that it is not held so often is named first.
func TestAHeldEntryOfZero(t *testing.T) {
	x := begun(t, nil, nil)
	for i := range 40 {
		do(t, x.f, func() { x.hold(item(i, uint8(i%4), 5)) })
	}
	for at, y := range rising(x.w.held) {
		none := y
		none.Times = 0
		putHeld(t, x.f, none)
		wantRefused(t, x.f, api.ErrSpoilt, heldOf(t, x.f, y.Hash), holdingOf(x.f), holdOf(x.f, y), holdOf(x.f, queue.Item{Hash: y.Hash, Times: most}))
		wantRefused(t, x.f, api.ErrArg, holdOf(x.f, none), unholdOf(x.f, y.Hash, 0), unholdOf(x.f, y.Hash, 1), unholdOf(x.f, y.Hash, most))
		wantTold(t, x.f, queue.Holding, rising(x.w.held)[:at])
		wantShiftOfSpoilt(t, x.f, at)
		for _, other := range x.w.held {
			if other != y {
				wantRefused(t, x.f, api.OK, heldOf(t, x.f, other.Hash))
			}
		}
		putHeld(t, x.f, y)
	}
	wantForest(t, x.f, x.w)
}

// wantShiftOfSpoilt fails unless a Shift that comes to the item of a number, or has to tell whether it is held still, says that it is spoilt, and changes nothing; of one further on nothing is said.
func wantShiftOfSpoilt(t *testing.T, f *forest.Forest, at int) {
	t.Helper()
	for _, n := range []int{at, at + 1, at + 2, 40, math.MaxInt} {
		if n > 0 {
			wantRefused(t, f, api.ErrSpoilt, shiftOf(t, f, n))
		}
	}
	if at < 2 {
		return
	}
	e := f.Do(func() api.Errno {
		if left, e := queue.Shift(f, at-1); !left || e != api.OK {
			t.Fatalf("Shift of %d ahead of %d: %v, %v", at-1, at, left, e)
		}
		return api.ErrHeld
	})
	want(t, "Do", e, api.ErrHeld)
}

// As many are shifted as is asked for, with what the queue has of them already.
func TestShift(t *testing.T) {
	for held := range 5 {
		for _, n := range []int{1, 2, 3, 4, 5, 6, math.MaxInt} {
			x := begun(t, []queue.Item{item(0, 0, 7), item(1, 40, 2), item(9, 30, 1)}, nil)
			do(t, x.f, func() {
				for i := range held {
					x.hold(item(i, uint8(40*i), uint32(i+1)))
				}
			})
			do(t, x.f, func() {
				x.shift(n)
				wantNow(t, x.f, x.w)
			})
			wantForest(t, x.f, x.w)
			for left := len(x.w.held); left > 0; left = len(x.w.held) {
				do(t, x.f, func() { x.shift(n) })
				if len(x.w.held) >= left {
					t.Fatal("nothing was shifted")
				}
			}
			wantForest(t, x.f, x.w)
		}
	}
}

// A hash of which there would be too many is refused, with all others; so is it ahead of what is spoilt, on either side of it.
func TestShiftOfTooMany(t *testing.T) {
	x := begun(t, nil, nil)
	do(t, x.f, func() {
		for i := range 3 {
			x.hold(item(i, 1, 5))
		}
	})
	l := rising(x.w.held)
	for at, y := range l {
		many := y
		many.Times = most - 4
		putQueued(t, x.f, many)
		for n := range 5 {
			if n > at || n == 0 {
				wantRefused(t, x.f, api.ErrArg, shiftOf(t, x.f, n))
			}
		}
		for _, other := range l {
			none := other
			none.Times = 0
			if other == y {
				continue
			}
			putHeld(t, x.f, none)
			wantRefused(t, x.f, api.ErrArg, shiftOf(t, x.f, 3))
			putHeld(t, x.f, other)
			putQueued(t, x.f, none)
			wantRefused(t, x.f, api.ErrArg, shiftOf(t, x.f, 3))
			do(t, x.f, func() { want(t, "Drop", queue.Drop(x.f, none), api.OK) })
		}
		many.Times--
		putQueued(t, x.f, many)
		do(t, x.f, func() {
			if left, e := queue.Shift(x.f, at+1); left != (at < 2) || e != api.OK {
				t.Fatalf("Shift: %v, %v", left, e)
			}
			for _, i := range l[:at+1] {
				want(t, "Drop", queue.Drop(x.f, i), api.OK)
				want(t, "Hold", queue.Hold(x.f, i), api.OK)
			}
		})
	}
	wantForest(t, x.f, x.w)
}

// An entry of 0 times in the queue is no less none's when more are shifted to it.
func TestShiftToAnEntryOfZero(t *testing.T) {
	x := begun(t, nil, []queue.Item{item(0, 1, 5), item(1, 1, 5), item(2, 1, 5)})
	for at, y := range rising(x.w.held) {
		none := y
		none.Times = 0
		putQueued(t, x.f, none)
		for n := at + 1; n < 5; n++ {
			wantRefused(t, x.f, api.ErrSpoilt, shiftOf(t, x.f, n))
		}
		do(t, x.f, func() { x.drop(none) })
	}
	wantForest(t, x.f, x.w)
}

// When no page is left, calls say what the forest says, and the change is gone; what is held is shifted all the same.
func TestNoPageIsLeft(t *testing.T) {
	x := begun(t, nil, nil)
	hashes := 0
	for {
		e := x.f.Do(holdOf(x.f, item(hashes, uint8(hashes), 3)))
		if e != api.OK {
			want(t, "Do", e, api.ErrFull)
			break
		}
		x.w.hold(item(hashes, uint8(hashes), 3))
		hashes++
	}
	if wantForest(t, x.f, x.w); hashes < 58*6 {
		t.Fatalf("%d hashes are all", hashes)
	}
	for _, call := range []func() api.Errno{holdOf(x.f, item(hashes, uint8(hashes), 3)), pushOf(x.f, item(0, 0, 1))} {
		want(t, "Do", x.f.Do(func() api.Errno {
			queue.Hold(x.f, item(0, 0, 1))
			want(t, "the call", call(), api.ErrFull)
			return api.OK
		}), api.ErrFull)
		wantForest(t, x.f, x.w)
	}
	for i := range hashes { // what needs no page is done
		do(t, x.f, func() { x.hold(item(i, 0, most-3)) })
	}
	for range 60 { // some pages are given back
		do(t, x.f, func() { x.unhold(rising(x.w.held)[0].Hash, rising(x.w.held)[0].Times) })
	}
	for len(x.w.held) > 0 {
		do(t, x.f, func() { x.shift(13) })
		wantForest(t, x.f, x.w)
	}
	for len(x.w.queue) > 0 {
		do(t, x.f, func() { x.drop(rising(x.w.queue)[0]) })
	}
	wantForest(t, x.f, x.w)
	if x.f.Store().Used() != 2 {
		t.Fatalf("%d pages are used", x.f.Store().Used())
	}
}

// When no page is left, what is shifted has those that are given back for it; if these are too few, the change is gone.
func TestShiftWhenNoPageIsLeft(t *testing.T) {
	x := begun(t, nil, []queue.Item{item(0, 3, 5), item(1, 4, 6)})
	for e := api.OK; e == api.OK; _, e = x.f.Store().Alloc() {
	}
	want(t, "Commit", x.f.Store().Commit(), api.OK)
	want(t, "Do", x.f.Do(func() api.Errno {
		want(t, "Shift", shiftOf(t, x.f, 1)(), api.ErrFull)
		return api.OK
	}), api.ErrFull)
	wantNow(t, x.f, x.w)
	do(t, x.f, func() { x.shift(2) })
	wantNow(t, x.f, x.w)
}

// Outside of a change nothing changes, whatever would come of it.
func TestOutsideOfAChange(t *testing.T) {
	x := begun(t, []queue.Item{item(0, 3, 5)}, []queue.Item{item(0, 3, 5), item(1, 3, most)})
	wantUntouched(t, "outside of a change", diskOf(x.f), func() {
		for i, call := range []func() api.Errno{
			pushOf(x.f, item(0, 3, 1)), pushOf(x.f, item(9, 3, 1)), pushOf(x.f, item(0, 3, 0)), pushOf(x.f, item(0, 3, most)),
			dropOf(x.f, item(0, 3, 5)), dropOf(x.f, item(9, 3, 5)),
			holdOf(x.f, item(0, 3, 1)), holdOf(x.f, item(9, 3, 1)), holdOf(x.f, item(0, 3, 0)), holdOf(x.f, item(1, 3, 1)),
			unholdOf(x.f, hash(0), 1), unholdOf(x.f, hash(0), 5), unholdOf(x.f, hash(0), 6), unholdOf(x.f, hash(9), 1),
			shiftOf(t, x.f, 1), shiftOf(t, x.f, 2), shiftOf(t, x.f, 3), shiftOf(t, x.f, 0),
		} {
			if e := call(); e != api.ErrArg {
				t.Errorf("the call %d: %v", i, e)
			}
			wantForest(t, x.f, x.w)
		}
	})
	x = begun(t, nil, nil)
	for i, call := range []func() api.Errno{pushOf(x.f, item(0, 3, 1)), dropOf(x.f, item(0, 3, 1)), holdOf(x.f, item(0, 3, 1)), unholdOf(x.f, hash(0), 1)} {
		if e := call(); e != api.ErrArg {
			t.Errorf("the call %d: %v", i, e)
		}
	}
	wantForest(t, x.f, x.w)
}

// wantAll fails unless all calls answer an error, each in a change of its own, that is gone for it. The hash 0 stands in the queue, and is held.
func wantAll(t *testing.T, f *forest.Forest, e api.Errno) {
	t.Helper()
	for i, call := range []func() api.Errno{
		pushOf(f, item(0, 3, 1)), pushOf(f, item(9, 3, 1)), dropOf(f, item(0, 3, 5)), dropOf(f, item(9, 3, 5)), firstOf(t, f), eachOf(f),
		holdOf(f, item(0, 3, 1)), holdOf(f, item(9, 3, 1)), heldOf(t, f, hash(0)), heldOf(t, f, hash(9)), holdingOf(f),
		unholdOf(f, hash(0), 1), unholdOf(f, hash(0), 5), unholdOf(f, hash(9), 1), shiftOf(t, f, 1), shiftOf(t, f, 9),
	} {
		said := f.Do(func() api.Errno {
			want(t, fmt.Sprint("the call ", i), call(), e)
			return api.OK
		})
		want(t, "Do", said, e)
	}
}

// What the forest says of pages that are none, all say.
func TestSpoiltPages(t *testing.T) {
	x := begun(t, []queue.Item{item(0, 3, 5), item(1, 3, 6)}, []queue.Item{item(0, 3, 5), item(1, 3, 6)})
	b, e := x.f.Store().Page(1)
	want(t, "Page", e, api.OK)
	for range 2 {
		var leaves [][]byte
		roots := []int{int(b[2*forest.Queue])<<8 | int(b[2*forest.Queue+1]), int(b[2*forest.Held])<<8 | int(b[2*forest.Held+1])}
		for _, root := range roots {
			leaf, e := x.f.Store().Page(root)
			want(t, "Page", e, api.OK)
			leaves = append(leaves, leaf)
			want(t, "Put", x.f.Store().Put(root, []byte(strings.Repeat("spoilt", 86)[:512])), api.OK)
		}
		want(t, "Commit", x.f.Store().Commit(), api.OK)
		wantAll(t, x.f, api.ErrSpoilt)
		for i, root := range roots {
			want(t, "Put", x.f.Store().Put(root, leaves[i]), api.OK)
		}
		want(t, "Commit", x.f.Store().Commit(), api.OK)
		wantForest(t, x.f, x.w)
		x.f = opened(t, diskOf(x.f))
	}
}

// What the disk says, all say, for ever.
func TestWithoutPower(t *testing.T) {
	x := begun(t, []queue.Item{item(0, 3, 5), item(1, 3, 6)}, []queue.Item{item(0, 3, 5), item(1, 3, 6)})
	diskOf(x.f).Crash("")
	for range 2 {
		wantAll(t, x.f, api.ErrDead)
		diskOf(x.f).Start()
	}
	wantForest(t, opened(t, diskOf(x.f)), x.w)
	// What may not be is refused ahead of that.
	for i, call := range []func() api.Errno{pushOf(x.f, item(0, 3, 0)), holdOf(x.f, item(0, 3, 0)), unholdOf(x.f, hash(0), 0), shiftOf(t, x.f, 0)} {
		if e := call(); e != api.ErrArg {
			t.Errorf("the call %d: %v", i, e)
		}
	}
}

// Within a change all answer what is now, and behind one that is gone what was.
func TestWithinAChange(t *testing.T) {
	x := begun(t, []queue.Item{item(0, 3, 5)}, []queue.Item{item(1, 4, 6), item(2, 5, 7)})
	now := both{t, x.f, x.w.copy()}
	e := x.f.Do(func() api.Errno {
		for _, step := range []func(){
			func() { now.push(item(3, 9, 1)) }, func() { now.drop(item(0, 3, 0)) }, func() { now.hold(item(4, 200, 9)) },
			func() { now.unhold(hash(1), 5) }, func() { now.shift(2) }, func() { now.push(item(3, 9, 2)) }, func() { now.shift(1) },
		} {
			step()
			wantNow(t, now.f, now.w)
		}
		return api.ErrHeld
	})
	want(t, "Do", e, api.ErrHeld)
	wantForest(t, x.f, x.w)
}
