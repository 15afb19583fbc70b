package queue

import (
	"math"

	"armarium/api"
	"armarium/pack"
)

// As many bytes as numbers have in an entry.
const (
	timesWidth  = 4
	heightWidth = 1
)

// queuedEntry answers an item's entry in the tree Queue. The higher an item is, the less is its key.
func queuedEntry(x Item) (string, string) {
	key := pack.New().Put(heightWidth, uint64(math.MaxUint8-x.Height)).Hash(x.Hash)
	return text(key), text(pack.New().Put(timesWidth, uint64(x.Times)))
}

// queuedItem answers the item that an entry of the tree Queue tells. Its widths are the tree's: any bytes tell one.
func queuedItem(key, val string) Item {
	k, v := pack.Of([]byte(key)), pack.Of([]byte(val))
	return Item{
		Height: math.MaxUint8 - uint8(k.Take(heightWidth)),
		Hash:   k.Hash(),
		Times:  uint32(v.Take(timesWidth)),
	}
}

// heldEntry answers an item's entry in the tree Held.
func heldEntry(x Item) (string, string) {
	val := pack.New().Put(timesWidth, uint64(x.Times)).Put(heightWidth, uint64(x.Height))
	return string(x.Hash[:]), text(val)
}

// heldItem answers the item that an entry of the tree Held tells.
func heldItem(key, val string) Item {
	v := pack.Of([]byte(val))
	return Item{
		Hash:   api.Hash([]byte(key)),
		Times:  uint32(v.Take(timesWidth)),
		Height: uint8(v.Take(heightWidth)),
	}
}

// text answers what was put: numbers of these widths always go in.
func text(p *pack.Packer) string {
	b, _ := p.Bytes()
	return string(b)
}
