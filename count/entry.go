package count

import (
	"armarium/api"
	"armarium/pack"
)

// halfWidth is as many bytes as each half of an entry's number has, and halfBits as many bits.
const (
	halfWidth = 2
	halfBits  = 8 * halfWidth
)

// hashKey answers a hash as the tree Counts has it.
func hashKey(h api.Hash) string { return string(h[:]) }

// valueOf answers a number as the tree Counts has it.
func valueOf(n uint32) string {
	p := pack.New()
	tellHalves(n, p.Put)
	b, _ := p.Bytes() // a half always goes in
	return string(b)
}

// tellHalves tells a number's halves, the higher one first, and how many bytes each has, to what puts them.
func tellHalves(n uint32, put func(width int, half uint64) *pack.Packer) {
	put(halfWidth, uint64(n>>halfBits))
	put(halfWidth, uint64(n&(1<<halfBits-1)))
}

// numberOf answers the number that an entry tells. Its width is the tree's, so 0 alone is none: who has no references has no entry.
func numberOf(val string) (uint32, api.Errno) {
	take := pack.Of([]byte(val)).Take
	n := uint32(take(halfWidth)) << halfBits
	n |= uint32(take(halfWidth))
	if n == 0 {
		return 0, api.ErrSpoilt
	}
	return n, api.OK
}
