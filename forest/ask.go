package forest

import (
	"armarium/api"
	"armarium/tree"
)

// toAsk answers a tree that may be asked.
func (f *Forest) toAsk(i int) (*tree.Tree, api.Errno) {
	if f == nil {
		return nil, api.ErrNil
	}
	if !isTree(i) {
		return nil, api.ErrArg
	}
	return &f.trees[i], api.OK
}

// toChange answers a tree that may be changed.
func (f *Forest) toChange(i int) (*tree.Tree, api.Errno) {
	t, e := f.toAsk(i)
	if e == api.OK && !f.within {
		return nil, api.ErrArg
	}
	return t, e
}

// Get answers the value of a tree's key, and whether there is one.
func (f *Forest) Get(tree int, key string) (string, bool, api.Errno) {
	t, e := f.toAsk(tree)
	if e != api.OK {
		return "", false, e
	}
	val, is, e := t.Get(key)
	return val, is, f.hear(e)
}

// From answers a tree's least key that is greater than one, or also is it, its value, and whether there is one.
func (f *Forest) From(tree int, key string, also bool) (string, string, bool, api.Errno) {
	t, e := f.toAsk(tree)
	if e != api.OK {
		return "", "", false, e
	}
	next, val, is, e := t.From(key, also)
	return next, val, is, f.hear(e)
}

// Each tells all of a tree's keys and values, rising, as long as it is answered true.
func (f *Forest) Each(tree int, do func(key, val string) bool) api.Errno {
	if do == nil {
		return api.ErrNil
	}
	t, e := f.toAsk(tree)
	if e != api.OK {
		return e
	}
	return f.hear(t.Each(do))
}
