package forest

import "armarium/api"

// Do does a change: all of it, or, if the change answers an error, or a tree met one, nothing.
func (f *Forest) Do(change func() api.Errno) api.Errno {
	if f == nil || change == nil {
		return api.ErrNil
	}
	if f.within {
		return api.ErrArg
	}
	was, done := f.trees, false
	f.within, f.met = true, api.OK
	// Deferred, so that a change that never answers leaves the trees as they were, too.
	defer func() {
		if !done {
			f.store.Abort()
			f.trees = was
		}
		f.within = false
	}()
	e := f.end(change())
	done = e == api.OK
	return e
}

// end commits the change that was done, with the roots, unless it answered an error, or a tree met one.
func (f *Forest) end(answered api.Errno) api.Errno {
	if answered != api.OK {
		return answered
	}
	if f.met != api.OK {
		return f.met
	}
	if e := f.writeRoots(); e != api.OK {
		return e
	}
	return f.store.Commit()
}

// hear keeps the first error that a tree met, and answers what it said.
func (f *Forest) hear(said api.Errno) api.Errno {
	if f.within && f.met == api.OK {
		f.met = said
	}
	return said
}

// Put lets a key of a tree have a value, within a change.
func (f *Forest) Put(tree int, key, val string) api.Errno {
	t, e := f.toChange(tree)
	if e != api.OK {
		return e
	}
	return f.hear(t.Put(key, val))
}

// Delete lets a key of a tree be there no more, within a change, and answers whether it was.
func (f *Forest) Delete(tree int, key string) (bool, api.Errno) {
	t, e := f.toChange(tree)
	if e != api.OK {
		return false, e
	}
	was, e := t.Delete(key)
	return was, f.hear(e)
}
