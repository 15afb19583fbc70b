package queue_test

import (
	"math/rand/v2"
	"testing"

	"armarium/api"
	"armarium/disk"
	"armarium/forest"
	"armarium/queue"
)

// P17.3

// together is how often hashes stand in the queue, and are held.
func (w told) together() map[api.Hash]uint64 {
	m := map[api.Hash]uint64{}
	for _, l := range [][]queue.Item{rising(w.queue), rising(w.held)} {
		for _, x := range l {
			m[x.Hash] += uint64(x.Times)
		}
	}
	return m
}

// togetherOf is the same, as a forest tells it.
func togetherOf(t *testing.T, f *forest.Forest) map[api.Hash]uint64 {
	t.Helper()
	m := map[api.Hash]uint64{}
	for _, each := range []teller{queue.Each, queue.Holding} {
		l, e := tellAll(f, each)
		want(t, "Each", e, api.OK)
		for _, x := range l {
			m[x.Hash] += uint64(x.Times)
		}
	}
	return m
}

// sameSums tells whether hashes are there as often.
func sameSums(a, b map[api.Hash]uint64) bool {
	for h, n := range a {
		if b[h] != n {
			return false
		}
	}
	return len(a) == len(b)
}

// height is that of the hash of a number: a hash has one.
func height(n int) uint8 { return uint8(n * 37) }

// Whatever is shifted, a hash is as often in both together; and all are told, the highest first.
func TestShiftsKeepTheSums(t *testing.T) {
	for seed := range uint64(30) {
		r := rand.New(rand.NewPCG(173, seed))
		x := begun(t, nil, nil)
		do(t, x.f, func() {
			for range 60 {
				n := r.IntN(40)
				x.push(item(n, height(n), 1+r.Uint32N(9)))
				n = r.IntN(40)
				x.hold(item(n, height(n), 1+r.Uint32N(9)))
			}
		})
		sums := togetherOf(t, x.f)
		if !sameSums(sums, x.w.together()) {
			t.Fatal("other sums are told")
		}
		for held := len(x.w.held); held > 0; held = len(x.w.held) {
			n := 1 + r.IntN(6)
			do(t, x.f, func() { x.shift(n) })
			if !sameSums(togetherOf(t, x.f), sums) {
				t.Fatal("the sums are others")
			}
			if len(x.w.held) != max(held-n, 0) {
				t.Fatalf("%d of %d are shifted; want %d", held-len(x.w.held), held, n)
			}
			wantForest(t, x.f, x.w)
		}
		wantFalling(t, x, sums)
	}
}

// wantFalling drops first ones till none is left, and fails unless they come by falling heights, each as often as it must be.
func wantFalling(t *testing.T, x both, sums map[api.Hash]uint64) {
	t.Helper()
	last := uint8(255)
	for n := len(sums); ; n-- {
		first, is, e := queue.First(x.f)
		want(t, "First", e, api.OK)
		if is != (n > 0) {
			t.Fatalf("First: %v, with %d left", is, n)
		}
		if !is {
			break
		}
		if first.Height > last || uint64(first.Times) != sums[first.Hash] {
			t.Fatalf("%v behind the height %d; want %d times", first, last, sums[first.Hash])
		}
		last = first.Height
		do(t, x.f, func() { x.drop(first) })
	}
	wantForest(t, x.f, x.w)
}

// behind answers the forest of a disk behind a change that was cut, or done, and which of both it is; it is one of both, wholly.
func behind(t *testing.T, d *disk.Disk, was, more told) both {
	t.Helper()
	x := both{t, opened(t, d), was}
	queued, held := entriesOf(t, x.f, forest.Queue), entriesOf(t, x.f, forest.Held)
	if q, h := more.entries(); sameTexts(queued, q) && sameTexts(held, h) {
		x.w = more
	}
	wantForest(t, x.f, x.w)
	return x
}

func sameTexts(a, b map[string]string) bool {
	for key, val := range a {
		if other, is := b[key]; !is || other != val {
			return false
		}
	}
	return len(a) == len(b)
}

// A change is cut at each act, with all subsets of what waits: all of it is there, or nothing.
func TestChangesAreCut(t *testing.T) {
	begin := begun(t, []queue.Item{item(0, 3, 5), item(1, 4, 6)}, []queue.Item{item(1, 4, 2), item(2, 0, 7), item(3, 255, most)})
	base, was := diskOf(begin.f), begin.w
	for i, change := range []func(x both){
		func(x both) { x.push(item(0, 3, 1)) },
		func(x both) { x.drop(item(1, 4, 0)) },
		func(x both) { x.hold(item(4, 8, 1)) },
		func(x both) { x.unhold(hash(2), 3) },
		func(x both) { x.shift(1) },
		func(x both) { x.shift(2) },
		func(x both) { x.shift(9) },
		func(x both) { x.drop(item(0, 3, 0)); x.shift(2); x.drop(item(1, 4, 0)); x.push(item(9, 9, 9)) },
		func(x both) { x.unhold(hash(3), most); x.hold(item(3, 1, 1)); x.shift(1) },
	} {
		there, gone := 0, 0
		for acts, done := 0, false; !done; acts++ {
			for keep := range 1 << min(acts, 8) {
				d := base.Copy()
				x, bits := both{t, opened(t, d), was.copy()}, string([]byte{byte(keep)})
				want(t, "Fuse", d.Fuse(acts, bits), api.OK)
				e := x.f.Do(func() api.Errno {
					change(x)
					return api.OK
				})
				if done = e == api.OK; done {
					d.Crash(bits)
				} else {
					want(t, "Do", e, api.ErrDead)
				}
				want(t, "Start", d.Start(), api.OK)
				if behind(t, d, was, x.w).w.same(x.w) {
					there++
				} else if gone++; done {
					t.Fatalf("the change %d: it was done, and is not there", i)
				}
			}
		}
		if there == 0 || gone == 0 {
			t.Errorf("the change %d: %d times it was there, %d times not", i, there, gone)
		}
	}
}

// A run is a forest that is changed, and what is told of it.
type run struct {
	both
	r *rand.Rand
}

// times is a number of times that may be, or not, mostly small.
func (x *run) times(had uint32) uint32 {
	switch x.r.IntN(8) {
	case 0:
		return had // all that it has
	case 1:
		return most - had // all that it may have
	case 2:
		return x.r.Uint32()
	default:
		return x.r.Uint32N(5)
	}
}

// step does something, within a change, to both.
func (x *run) step(now both) api.Errno {
	n := x.r.IntN(60)
	i := item(n, height(n), 0)
	had := now.w.held[heldKey(i.Hash)].Times
	switch x.r.IntN(8) {
	case 0, 1:
		i.Times = x.times(now.w.queue[queueKey(i)].Times)
		return now.push(i)
	case 2:
		now.drop(i)
	case 3:
		if first, is, _ := queue.First(now.f); is {
			now.drop(first)
		}
	case 4, 5:
		i.Times = x.times(had)
		return now.hold(i)
	case 6:
		return now.unhold(i.Hash, x.times(had))
	default:
		return x.shifted(now, x.r.IntN(6)-1)
	}
	return api.OK
}

// shifted shifts, and sees to it that hashes are in both together as often as ahead of it.
func (x *run) shifted(now both, n int) api.Errno {
	sums := now.w.together()
	e := now.shift(n)
	if !sameSums(togetherOf(x.t, now.f), sums) {
		x.t.Fatal("the sums are others")
	}
	return e
}

// come lets the power come again, and opens the forest, perhaps with more crashes meanwhile; it is w, or more.
func (x *run) come(d *disk.Disk, more told) {
	x.t.Helper()
	want(x.t, "Start", d.Start(), api.OK)
	for x.r.IntN(3) == 0 {
		d.Fuse(x.r.IntN(40), someBits(x.r))
		if _, e := forest.Open(d); e == api.OK {
			d.Crash(someBits(x.r))
		}
		want(x.t, "Start", d.Start(), api.OK)
	}
	x.both = behind(x.t, d, x.w, more)
}

// change does a change of some steps, that may be cut, or answer an error.
func (x *run) change(counted map[api.Errno]int) {
	x.t.Helper()
	d := diskOf(x.f)
	answered := []api.Errno{api.OK, api.OK, api.OK, api.ErrHeld}[x.r.IntN(4)]
	if x.r.IntN(4) == 0 {
		d.Fuse(x.r.IntN(30), someBits(x.r))
	}
	now := both{x.t, x.f, x.w.copy()}
	e := x.f.Do(func() api.Errno {
		for range x.r.IntN(12) {
			if x.step(now) == api.ErrArg {
				counted[api.ErrArg]++
			}
		}
		return answered
	})
	switch {
	case e == api.ErrDead && answered == api.OK:
		x.come(d, now.w)
	case e == api.OK && answered == api.OK:
		x.w = now.w
	default:
		want(x.t, "Do", e, answered)
	}
	counted[e]++
}

// Whatever is done, in changes that are done, cut, or gone: the trees are what was done.
func TestWhateverIsDone(t *testing.T) {
	counted := map[api.Errno]int{}
	for seed := range uint64(12) {
		x := &run{begun(t, nil, nil), rand.New(rand.NewPCG(1730, seed))}
		for range 120 {
			x.change(counted)
			if d := diskOf(x.f); x.r.IntN(8) == 0 {
				d.Crash(someBits(x.r))
				x.come(d, x.w)
			}
			wantForest(t, x.f, x.w)
		}
		d := diskOf(x.f)
		d.Crash(someBits(x.r)) // with a fuse that may be left
		x.come(d, x.w)
	}
	if counted[api.OK] < 400 || counted[api.ErrDead] < 50 || counted[api.ErrHeld] < 100 || counted[api.ErrArg] < 500 {
		t.Errorf("%v", counted)
	}
}
