package queue

import (
	"math"

	"armarium/api"
	"armarium/forest"
)

// A shelf is a tree whose entries are items: how an item's entry looks, and which item an entry tells.
type shelf struct {
	tree  int
	entry func(x Item) (key, val string)
	item  func(key, val string) Item
}

// queued is the shelf of what stands in the queue.
func queued() shelf { return shelf{forest.Queue, queuedEntry, queuedItem} }

// held is the shelf of what is held.
func held() shelf { return shelf{forest.Held, heldEntry, heldItem} }

// sound says of an item that an entry told whether it may be: what is there no times has no entry.
func (x Item) sound() api.Errno {
	if x.Times == 0 {
		return api.ErrSpoilt
	}
	return api.OK
}

// find answers the item whose entry has the key of another one's, and whether there is one. It need not be sound.
func (s shelf) find(f *forest.Forest, x Item) (Item, bool, api.Errno) {
	key, _ := s.entry(x)
	val, is, e := f.Get(s.tree, key)
	if e != api.OK || !is {
		return Item{}, false, e
	}
	return s.item(key, val), true, api.OK
}

// tell tells all items, by their keys, rising, as long as it is answered true. They need not be sound.
func (s shelf) tell(f *forest.Forest, do func(x Item) bool) api.Errno {
	return f.Each(s.tree, func(key, val string) bool { return do(s.item(key, val)) })
}

// each tells all items up to one that is not sound.
func (s shelf) each(f *forest.Forest, do func(x Item) bool) api.Errno {
	if f == nil || do == nil {
		return api.ErrNil
	}
	met := api.OK
	e := s.tell(f, func(x Item) bool {
		met = x.sound()
		return met == api.OK && do(x)
	})
	if e != api.OK {
		return e
	}
	return met
}

// more answers an item as it will be when it is there so often more. A height that is told already stays.
func (s shelf) more(f *forest.Forest, x Item) (Item, api.Errno) {
	had, is, e := s.find(f, x)
	if e != api.OK || !is {
		return x, e
	}
	if x.Times > math.MaxUint32-had.Times {
		return x, api.ErrArg
	}
	x.Height, x.Times = had.Height, x.Times+had.Times
	return x, had.sound()
}

// add lets an item be there so often more, within a change.
func (s shelf) add(f *forest.Forest, x Item) api.Errno {
	if f == nil {
		return api.ErrNil
	}
	if x.Times < 1 {
		return api.ErrArg
	}
	x, e := s.more(f, x)
	if e != api.OK {
		return e
	}
	return s.put(f, x)
}

// put lets an item have an entry, within a change, whatever that was.
func (s shelf) put(f *forest.Forest, x Item) api.Errno {
	key, val := s.entry(x)
	return f.Put(s.tree, key, val)
}

// remove lets an item have no entry, within a change.
func (s shelf) remove(f *forest.Forest, x Item) api.Errno {
	key, _ := s.entry(x)
	_, e := f.Delete(s.tree, key)
	return e
}
