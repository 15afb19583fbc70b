package place

import (
	"armarium/api"
	"armarium/boxes"
	"armarium/pack"
)

// width is as many bytes as a box's number has, an offset, and a length.
const width = 2

// over is how many bytes a record has more than its data: a hash, and a length.
const over = len(api.Hash{}) + width

// size answers how many bytes the record at a place has.
func size(l boxes.Loc) int { return l.Len + over }

// hashKey answers a hash as the tree Places has it.
func hashKey(h api.Hash) string { return string(h[:]) }

// numbers answers numbers as an entry has them.
func numbers(l ...int) (string, api.Errno) {
	p := pack.New()
	for _, n := range l {
		p.Put(width, uint64(n))
	}
	b, e := p.Bytes()
	return string(b), e
}

// locOf answers the place that an entry of the tree Places tells. Its width is the tree's: any bytes tell one.
func locOf(val string) boxes.Loc {
	o := pack.Of([]byte(val))
	return boxes.Loc{Box: int(o.Take(width)), Off: int(o.Take(width)), Len: int(o.Take(width))}
}

// spot answers where a place's record begins, as the tree Moved has it.
func spot(l boxes.Loc) string {
	b, _ := numbers(l.Box, l.Off) // what came from an entry, or an append, always goes in
	return b
}

// spotOf answers the place of a record of so many bytes of data that begins at a spot.
func spotOf(b string, data int) boxes.Loc {
	o := pack.Of([]byte(b))
	return boxes.Loc{Box: int(o.Take(width)), Off: int(o.Take(width)), Len: data}
}
