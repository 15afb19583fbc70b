package forest

import (
	"slices"

	"armarium/api"
	"armarium/node"
)

// marks are the bits of the pages, as the page that says which are used has them.
type marks []byte

// used answers the marks of the pages that are used now.
func (f *Forest) used() (marks, api.Errno) {
	b, e := f.store.Page(mapPage)
	return b, e
}

// strike takes a page's mark, and answers whether there was one.
func (m marks) strike(page int) bool {
	mask := byte(1) << (page % 8)
	was := m[page/8]&mask != 0
	m[page/8] &^= mask
	return was
}

func (m marks) any() bool { return slices.ContainsFunc(m, func(b byte) bool { return b != 0 }) }

// Check answers how many keys each tree has, if all trees are sound, and just their pages are used. Each page's mark is struck where the page is met: so none is met twice, and what is left is nobody's.
func (f *Forest) Check() ([Trees]int, api.Errno) {
	if f == nil {
		return [Trees]int{}, api.ErrNil
	}
	left, e := f.used()
	if e != api.OK {
		return [Trees]int{}, e
	}
	var keys [Trees]int
	for i := range f.trees {
		t := &f.trees[i]
		n, _, e := t.Check()
		if e := f.hear(e); e != api.OK {
			return [Trees]int{}, e
		}
		keys[i] = n
		if t.Root == 0 {
			continue
		}
		if e := f.strikeAll(left, t.Shape, t.Root); e != api.OK {
			return [Trees]int{}, e
		}
	}
	if !left.strike(mapPage) || !left.strike(rootsPage) || left.any() {
		return [Trees]int{}, api.ErrSpoilt
	}
	return keys, api.OK
}

// strikeAll strikes a page of a sound tree, and all below it.
func (f *Forest) strikeAll(left marks, shape node.Shape, page int) api.Errno {
	if !left.strike(page) {
		return api.ErrSpoilt
	}
	b, e := f.store.Page(page)
	if e != api.OK {
		return e
	}
	n, e := shape.Take(b)
	if e != api.OK {
		return api.ErrSpoilt
	}
	for _, kid := range n.Kids {
		if e := f.strikeAll(left, shape, kid); e != api.OK {
			return e
		}
	}
	return api.OK
}
