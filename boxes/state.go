package boxes

import (
	"armarium/api"
	"armarium/forest"
	"armarium/pack"
)

// kindWidth is as many bytes as a state's kind has, and bytesWidth as say how many of a box's are used, or live.
const (
	kindWidth  = 1
	bytesWidth = 2
)

// State is a box's: its kind, and how many bytes of its room are used, and live. A free one has neither.
type State struct {
	Kind       uint8
	Used, Live int
}

// State answers a box's state.
func (s *Store) State(i int) (State, api.Errno) {
	if e := s.mayAsk(i); e != api.OK {
		return State{}, e
	}
	val, is, e := s.forest.Get(forest.Boxes, number(i))
	if e != api.OK || !is {
		return State{}, e
	}
	return stateOf(val)
}

// mayAsk asks whether there is a box, and power.
func (s *Store) mayAsk(i int) api.Errno {
	if s == nil {
		return api.ErrNil
	}
	if !s.isBox(i) {
		return api.ErrArg
	}
	return s.hasPower()
}

// hasPower asks the forest's store for a page, whichever: a tree without keys says nothing of the power, and a store that once heard of its end says so for ever.
func (s *Store) hasPower() api.Errno {
	_, e := s.forest.Store().Page(0)
	return e
}

// put lets a box have a state, within a change.
func (s *Store) put(i int, x State) api.Errno {
	return s.forest.Put(forest.Boxes, number(i), x.value())
}

// value answers what the forest has of a state.
func (x State) value() string {
	p := pack.New()
	x.tell(p.Put)
	b, _ := p.Bytes() // a box's bytes always go in
	return string(b)
}

// tell tells a state's numbers, and how many bytes each has, to what puts them.
func (x State) tell(put func(width int, n uint64) *pack.Packer) {
	put(kindWidth, uint64(x.Kind))
	put(bytesWidth, uint64(x.Used))
	put(bytesWidth, uint64(x.Live))
}

// stateOf answers the state of a box that is not free.
func stateOf(val string) (State, api.Errno) {
	o := pack.Of([]byte(val))
	x := State{Kind: uint8(o.Take(kindWidth)), Used: int(o.Take(bytesWidth)), Live: int(o.Take(bytesWidth))}
	if o.End() != api.OK || !x.may() {
		return State{}, api.ErrSpoilt
	}
	return x, api.OK
}

// may asks whether a box that is not free may have a state.
func (x State) may() bool {
	return (x.Kind == Open || x.Kind == Sealed) && x.Used <= api.BoxRoom && x.Live <= x.Used
}
