package chunk_test

import (
	"encoding/binary"
	"fmt"
	"math/big"
	"math/rand/v2"
	"reflect"
	"slices"
	"strings"
	"testing"

	"armarium/api"
	"armarium/chunk"
)

// The chapter's words, written anew.

// heightTold is the height of any chunk, whether it may be or not.
func heightTold(c chunk.Chunk) int {
	if c.Kind != 2 && c.Kind != 3 {
		return 0
	}
	height := 1
	for _, k := range c.Kids {
		if int(k.Height) >= height {
			height = int(k.Height) + 1
		}
	}
	return height
}

// sizeTold adds without a bound.
func sizeTold(c chunk.Chunk) *big.Int {
	sum := new(big.Int)
	switch c.Kind {
	case 3:
	case 2:
		for _, k := range c.Kids {
			sum.Add(sum, big.NewInt(int64(k.Size)))
		}
	default:
		sum.SetInt64(int64(len(c.Data)))
	}
	return sum
}

// faultTold is what a chunk may not be for, or nothing.
func faultTold(c chunk.Chunk) string {
	switch {
	case c.Kind < 1 || c.Kind > 3:
		return "a kind that is none"
	case c.Kind == 1 && len(c.Data) > 240:
		return "too many bytes"
	case c.Kind == 1 && len(c.Kids) > 0:
		return "a blob's children"
	case c.Kind != 1 && c.Data != "":
		return "data of what is no blob"
	case len(c.Kids) > 6:
		return "too many children"
	case c.Kind == 2 && len(c.Kids) == 0:
		return "an index without children"
	case heightTold(c) > 255:
		return "too high"
	case sizeTold(c).BitLen() > 32:
		return "too much"
	}
	for i, k := range c.Kids {
		switch {
		case c.Kind == 2 && (k.Dir || k.Name != ""):
			return "an entry in an index"
		case c.Kind == 3 && (len(k.Name) < 1 || len(k.Name) > 16):
			return "a name that may not be"
		case c.Kind == 3 && i > 0 && strings.Compare(c.Kids[i-1].Name, k.Name) >= 0:
			return "names that do not rise"
		}
	}
	return ""
}

// bytesTold are the bytes of a chunk that may be.
func bytesTold(c chunk.Chunk) string {
	if c.Kind == 1 {
		return "\x01" + c.Data
	}
	b := []byte{c.Kind, byte(len(c.Kids))}
	for _, k := range c.Kids {
		if c.Kind == 3 {
			flag := byte(0)
			if k.Dir {
				flag = 1
			}
			b = append(b, flag, byte(len(k.Name)))
			b = append(b, k.Name...)
		}
		b = append(append(b, k.Hash[:]...), k.Height)
		b = binary.BigEndian.AppendUint32(b, k.Size)
	}
	return string(b)
}

// chunkTold is the chunk of bytes, if they are one's. It reads on as far as they go, and asks of what it read whether it may be.
func chunkTold(b string) (chunk.Chunk, bool) {
	if b == "" {
		return chunk.Chunk{}, false
	}
	c, left := chunk.Chunk{Kind: b[0]}, b[1:]
	if c.Kind != 2 && c.Kind != 3 {
		c.Data = left
		return c, faultTold(c) == ""
	}
	if left == "" {
		return chunk.Chunk{}, false
	}
	n := int(left[0])
	left = left[1:]
	for range n {
		var k chunk.Kid
		if c.Kind == 3 {
			if len(left) < 2 || left[0] > 1 || len(left) < 2+int(left[1]) {
				return chunk.Chunk{}, false
			}
			k.Dir, k.Name, left = left[0] == 1, left[2:2+int(left[1])], left[2+int(left[1]):]
		}
		if len(left) < 37 {
			return chunk.Chunk{}, false
		}
		copy(k.Hash[:], left)
		k.Height, k.Size, left = left[32], binary.BigEndian.Uint32([]byte(left[33:])), left[37:]
		c.Kids = append(c.Kids, k)
	}
	return c, left == "" && faultTold(c) == ""
}

// The tests' helpers.

// same says whether two chunks are the same; lists without any children are.
func same(a, b chunk.Chunk) bool {
	return a.Kind == b.Kind && a.Data == b.Data && slices.Equal(a.Kids, b.Kids)
}

// copied shares no children with the chunk.
func copied(c chunk.Chunk) chunk.Chunk {
	c.Kids = slices.Clone(c.Kids)
	return c
}

// brief tells a chunk in short.
func brief(c chunk.Chunk) string {
	var kids []string
	for _, k := range c.Kids[:min(len(c.Kids), 8)] {
		kids = append(kids, fmt.Sprintf("%.20q dir %v %x.. height %d size %d", k.Name, k.Dir, k.Hash[:2], k.Height, k.Size))
	}
	return fmt.Sprintf("kind %d, %d bytes %.20q, %d children [%s]", c.Kind, len(c.Data), c.Data, len(c.Kids), strings.Join(kids, "; "))
}

// wantHeight fails unless a chunk's height and size are these.
func wantHeight(t *testing.T, c chunk.Chunk, height int, size uint64) {
	t.Helper()
	if c.Height() != height || c.Size() != size {
		t.Errorf("%s: height %d, size %d; want %d, %d", brief(c), c.Height(), c.Size(), height, size)
	}
}

// wantBoth fails unless a chunk and bytes answer each other.
func wantBoth(t *testing.T, c chunk.Chunk, b string) {
	t.Helper()
	was := copied(c)
	if got, e := chunk.Put(c); e != api.OK || string(got) != b {
		t.Fatalf("%s: bytes % x, error %d; want % x", brief(c), got, e, b)
	}
	if !same(c, was) {
		t.Fatalf("what was put became %s; it was %s", brief(c), brief(was))
	}
	in := []byte(b)
	if got, e := chunk.Take(in); e != api.OK || !same(got, c) {
		t.Fatalf("% x: took %s, error %d; want %s", b, brief(got), e, brief(c))
	}
	if string(in) != b {
		t.Fatalf("what was taken became % x; it was % x", in, b)
	}
}

// wantNone fails unless Put refuses a chunk.
func wantNone(t *testing.T, why string, c chunk.Chunk) {
	t.Helper()
	if b, e := chunk.Put(c); e != api.ErrArg || len(b) != 0 {
		t.Errorf("%s: %s: bytes % x, error %d", why, brief(c), b, e)
	}
}

// wantNoChunk fails unless Take refuses bytes.
func wantNoChunk(t *testing.T, why, b string) {
	t.Helper()
	if c, e := chunk.Take([]byte(b)); e != api.ErrForm || !reflect.ValueOf(c).IsZero() {
		t.Errorf("%s: % x: took %s, error %d", why, b[:min(len(b), 80)], brief(c), e)
	}
}

// wantRefused fails unless both a chunk, and what would be its bytes, are refused.
func wantRefused(t *testing.T, why string, c chunk.Chunk) {
	t.Helper()
	wantNone(t, why, c)
	wantNoChunk(t, why, bytesTold(c))
}

// kids are n children, whose names rise where they are a directory's.
func kids(kind uint8, n int) []chunk.Kid {
	l := make([]chunk.Kid, n)
	for i := range l {
		l[i] = chunk.Kid{Hash: api.Hash{byte(i), 31: byte(n)}, Height: uint8(i), Size: uint32(i) * 1000}
		if kind == chunk.Dir {
			l[i].Name, l[i].Dir = fmt.Sprintf("n%03d", i), i%2 == 1
		}
	}
	return l
}

func text(n int) string { return strings.Repeat("t", n) }

func someText(r *rand.Rand, n int) string {
	b := make([]byte, n)
	for i := range b {
		b[i] = byte(r.Uint32())
	}
	return string(b)
}

// someKid is any child of a chunk of that kind; its height and its size are small, or at their bounds.
func someKid(r *rand.Rand, kind uint8) chunk.Kid {
	k := chunk.Kid{Hash: api.Hash([]byte(someText(r, 32))), Height: uint8(r.IntN(255)), Size: r.Uint32() / 6}
	if r.IntN(4) == 0 {
		k.Height = []uint8{0, 1, 253, 254}[r.IntN(4)]
	}
	if kind == chunk.Dir {
		k.Name, k.Dir = someText(r, 1+r.IntN(16)), r.IntN(2) == 0
		if r.IntN(2) == 0 {
			k.Size = ^uint32(0) - r.Uint32N(2)
		}
	}
	return k
}

// someChunk is any chunk that may be.
func someChunk(r *rand.Rand) chunk.Chunk {
	for {
		c := chunk.Chunk{Kind: uint8(1 + r.IntN(3))}
		if c.Kind == chunk.Blob {
			c.Data = someText(r, r.IntN(241))
			return c
		}
		for range r.IntN(7) {
			c.Kids = append(c.Kids, someKid(r, c.Kind))
		}
		slices.SortFunc(c.Kids, func(a, b chunk.Kid) int { return strings.Compare(a.Name, b.Name) })
		if faultTold(c) == "" {
			return c
		}
	}
}
