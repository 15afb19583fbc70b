package tree

import "armarium/api"

// A fault is an error that is thrown: what goes wrong deep in a tree is told once, by the call that was asked.
type fault api.Errno

// must throws an error unless something holds.
func must(holds bool, e api.Errno) {
	if !holds {
		panic(fault(e))
	}
}

// caught answers what a call answers, or the error that it threw. Whatever else is thrown is not the tree's, and goes on.
func caught[T any](call func() T) (x T, e api.Errno) {
	defer func() {
		switch thrown := recover().(type) {
		case nil:
		case fault:
			e = api.Errno(thrown)
		default:
			panic(thrown)
		}
	}()
	return call(), api.OK
}
