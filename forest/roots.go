package forest

import (
	"bytes"
	"strings"

	"armarium/api"
	"armarium/pack"
	"armarium/tree"
)

// The pages that are no tree's: one says which pages are used, one has the roots.
const (
	mapPage = iota
	rootsPage
	ownPages // how many these are
)

// rootWidth is as many bytes as a root has.
const rootWidth = 2

// roots answers what the page of the roots must be.
func (f *Forest) roots() []byte {
	p := pack.New()
	for _, t := range f.trees {
		p.Put(rootWidth, uint64(t.Root))
	}
	b, _ := p.Text(strings.Repeat("\x00", api.Sector-Trees*rootWidth)).Bytes() // a page's number always goes in
	return b
}

// readRoots sets the trees as the page of the roots has them.
func (f *Forest) readRoots() api.Errno {
	used, e := f.used()
	if e != api.OK {
		return e
	}
	b, e := f.store.Page(rootsPage)
	if e != api.OK {
		return e
	}
	o := pack.Of(b)
	for i := range f.trees {
		f.trees[i] = tree.Tree{S: f.store, Shape: Shape(i), Root: int(o.Take(rootWidth))}
		if !f.mayRoot(f.trees[i].Root) {
			return api.ErrSpoilt
		}
	}
	// What stands behind the roots is not put again; and if the page were not used, a tree would come to lie on it.
	if !used.strike(rootsPage) || !bytes.Equal(f.roots(), b) {
		return api.ErrSpoilt
	}
	return api.OK
}

// mayRoot asks of a number whether it may be a tree's root.
func (f *Forest) mayRoot(root int) bool {
	return root == 0 || root >= ownPages && root < f.store.Pages()
}

// writeRoots lets the page of the roots have them. It is left alone if it has: most changes change no root.
func (f *Forest) writeRoots() api.Errno {
	b, e := f.store.Page(rootsPage)
	if e != api.OK || bytes.Equal(f.roots(), b) {
		return e
	}
	return f.store.Put(rootsPage, f.roots())
}
