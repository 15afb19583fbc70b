package queue

import (
	"armarium/api"
	"armarium/forest"
)

// Hold lets a hash be held so often more, within a change.
func Hold(f *forest.Forest, x Item) api.Errno { return held().add(f, x) }

// Held answers how a hash is held, and whether it is.
func Held(f *forest.Forest, h api.Hash) (Item, bool, api.Errno) {
	x, is, e := held().find(f, Item{Hash: h})
	if e == api.OK && is {
		e = x.sound()
	}
	if e != api.OK {
		return Item{}, false, e
	}
	return x, is, api.OK
}

// Unhold lets a hash be held so often less, within a change.
func Unhold(f *forest.Forest, h api.Hash, times uint32) api.Errno {
	if f == nil {
		return api.ErrNil
	}
	if times < 1 {
		return api.ErrArg
	}
	x, _, e := held().find(f, Item{Hash: h})
	if e != api.OK {
		return e
	}
	// An entry of 0 times ends here, too: that a hash is not held so often is named ahead of what is spoilt.
	if x.Times < times {
		return api.ErrArg
	}
	if x.Times == times {
		return held().remove(f, x)
	}
	x.Times -= times
	return held().put(f, x)
}

// Holding tells all that are held, by their hashes, rising, as long as it is answered true.
func Holding(f *forest.Forest, do func(x Item) bool) api.Errno { return held().each(f, do) }

// Shift pushes the first so many hashes that are held, within a change, and answers whether any is held still. All is asked ahead of the first change, so that what is refused changes nothing.
func Shift(f *forest.Forest, most int) (bool, api.Errno) {
	if f == nil {
		return false, api.ErrNil
	}
	if most < 1 {
		return false, api.ErrArg
	}
	l, e := firstHeld(f, most)
	if e != api.OK {
		return false, e
	}
	shifted := l[:min(most, len(l))]
	pushed, e := pushedAll(f, shifted)
	if e == api.OK {
		e = soundAll(l)
	}
	if e != api.OK {
		return false, e
	}
	if e := shift(f, shifted, pushed); e != api.OK {
		return false, e
	}
	return len(l) > most, api.OK
}

// firstHeld answers the first so many items that are held, and, if there is one, the one behind them.
func firstHeld(f *forest.Forest, most int) ([]Item, api.Errno) {
	var l []Item
	e := held().tell(f, func(x Item) bool {
		l = append(l, x)
		return len(l) <= most
	})
	return l, e
}

// pushedAll answers items as they will stand in the queue. Too many times of one of them are named ahead of what is spoilt of another one, so all are asked.
func pushedAll(f *forest.Forest, l []Item) ([]Item, api.Errno) {
	var pushed []Item
	met := api.OK
	for _, x := range l {
		sum, e := queued().more(f, x)
		if e == api.ErrArg {
			return nil, e
		}
		if met == api.OK {
			met = e
		}
		pushed = append(pushed, sum)
	}
	return pushed, met
}

// soundAll asks of items whether all are sound.
func soundAll(l []Item) api.Errno {
	for _, x := range l {
		if e := x.sound(); e != api.OK {
			return e
		}
	}
	return api.OK
}

// shift lets items be held no more, and others stand in the queue. They are let go first, as that gives pages back that the queue may need.
func shift(f *forest.Forest, shifted, pushed []Item) api.Errno {
	for _, x := range shifted {
		if e := held().remove(f, x); e != api.OK {
			return e
		}
	}
	for _, x := range pushed {
		if e := queued().put(f, x); e != api.OK {
			return e
		}
	}
	return api.OK
}
