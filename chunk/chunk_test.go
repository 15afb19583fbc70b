package chunk_test

import (
	"math/rand/v2"
	"slices"
	"testing"

	"armarium/api"
	"armarium/chunk"
)

// P12.1

func TestKindsCountOn(t *testing.T) {
	if chunk.Blob != 1 || chunk.Index != 2 || chunk.Dir != 3 || chunk.Most != 340 {
		t.Errorf("kinds %d, %d, %d; %d bytes at most", chunk.Blob, chunk.Index, chunk.Dir, chunk.Most)
	}
}

func TestHeightAndSizeOfBlobs(t *testing.T) {
	for n := range api.MaxBlob + 1 {
		wantHeight(t, chunk.Chunk{Kind: chunk.Blob, Data: text(n)}, 0, uint64(n))
	}
}

func TestHeightOfADirectoryWithoutChildren(t *testing.T) {
	wantHeight(t, chunk.Chunk{Kind: chunk.Dir}, 1, 0)
	wantHeight(t, chunk.Chunk{Kind: chunk.Dir, Kids: []chunk.Kid{}}, 1, 0)
}

// The greatest one counts, wherever it stands.
func TestHeightIsOneMoreThanTheGreatest(t *testing.T) {
	for _, kind := range []uint8{chunk.Index, chunk.Dir} {
		for n := 1; n <= api.MaxKids; n++ {
			for at := range n {
				c := chunk.Chunk{Kind: kind, Kids: make([]chunk.Kid, n)}
				for i := range c.Kids {
					c.Kids[i].Height = 3
				}
				for _, height := range []int{3, 4, 127, 128, 254} {
					c.Kids[at].Height = uint8(height)
					wantHeight(t, c, height+1, 0)
				}
			}
		}
		wantHeight(t, chunk.Chunk{Kind: kind, Kids: make([]chunk.Kid, 2)}, 1, 0)
	}
}

func TestSizeOfAnIndexIsItsChildrens(t *testing.T) {
	c := chunk.Chunk{Kind: chunk.Index, Kids: []chunk.Kid{{Size: 240}, {Size: 0}, {Size: 1}, {Size: 1 << 31}}}
	wantHeight(t, c, 1, 1<<31+241)
	c.Kids[3].Size = 1<<32 - 242
	wantHeight(t, c, 1, 1<<32-1)
}

func TestSizeOfADirectoryIsNone(t *testing.T) {
	wantHeight(t, chunk.Chunk{Kind: chunk.Dir, Kids: []chunk.Kid{{Name: "a", Size: 240}, {Name: "b", Size: 1<<32 - 1}}}, 1, 0)
}

// Chunks that may not be have a height and a size by the same rule.
func TestHeightAndSizeOfWhatMayNotBe(t *testing.T) {
	all := []chunk.Kid{{Height: 255, Size: 1<<32 - 1}, {Height: 7, Size: 1<<32 - 1}}
	wantHeight(t, chunk.Chunk{Kind: chunk.Index, Kids: all}, 256, 2*(1<<32-1))
	wantHeight(t, chunk.Chunk{Kind: chunk.Dir, Kids: all}, 256, 0)
	wantHeight(t, chunk.Chunk{Kind: chunk.Index}, 1, 0)
	wantHeight(t, chunk.Chunk{Kind: chunk.Index, Data: "abc"}, 1, 0)
	wantHeight(t, chunk.Chunk{Kind: chunk.Index, Data: "abc", Kids: all[1:]}, 8, 1<<32-1)
	wantHeight(t, chunk.Chunk{Kind: chunk.Dir, Data: "abc", Kids: all[1:]}, 8, 0)
	wantHeight(t, chunk.Chunk{Kind: chunk.Blob, Data: text(100000)}, 0, 100000)
	wantHeight(t, chunk.Chunk{Kind: chunk.Blob, Data: "abc", Kids: all}, 0, 3)
	many := make([]chunk.Kid, 10000)
	for i := range many {
		many[i] = chunk.Kid{Height: uint8(i % 200), Size: 1<<32 - 1}
	}
	wantHeight(t, chunk.Chunk{Kind: chunk.Index, Kids: many}, 200, 10000*(1<<32-1))
	wantHeight(t, chunk.Chunk{Kind: chunk.Dir, Kids: many}, 200, 0)
}

func TestAKindThatIsNoneIsAsABlob(t *testing.T) {
	wantHeight(t, chunk.Chunk{}, 0, 0)
	for kind := range 256 {
		if kind >= 1 && kind <= 3 {
			continue
		}
		wantHeight(t, chunk.Chunk{Kind: uint8(kind), Data: "abcd", Kids: []chunk.Kid{{Height: 9, Size: 9}}}, 0, 4)
	}
}

// Of a chunk with any fields, and the same ones when they are asked again.
func TestHeightAndSizeOfAnyChunks(t *testing.T) {
	r := rand.New(rand.NewPCG(12, 1))
	for range 5000 {
		c := chunk.Chunk{Kind: uint8(r.IntN(5)), Data: someText(r, r.IntN(4)*r.IntN(200))}
		for range r.IntN(9) {
			c.Kids = append(c.Kids, chunk.Kid{Name: someText(r, r.IntN(3)), Height: uint8(r.Uint32()), Size: r.Uint32()})
		}
		was := copied(c)
		wantHeight(t, c, heightTold(c), sizeTold(c).Uint64())
		wantHeight(t, c, heightTold(c), sizeTold(c).Uint64())
		slices.Reverse(c.Kids)
		wantHeight(t, c, heightTold(was), sizeTold(was).Uint64())
		slices.Reverse(c.Kids)
		if !same(c, was) {
			t.Fatalf("a chunk became %s", brief(c))
		}
	}
}
