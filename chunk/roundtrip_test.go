package chunk_test

import (
	"math/rand/v2"
	"testing"

	"armarium/api"
	"armarium/chunk"
)

// P12.3

func TestTheGreatestChunkHasNoMoreThanMost(t *testing.T) {
	c := chunk.Chunk{Kind: chunk.Dir}
	for i := range api.MaxKids {
		c.Kids = append(c.Kids, chunk.Kid{Name: string([]byte{byte('a' + i)}) + text(api.MaxName-1), Dir: true, Hash: hashOf(255), Height: 254, Size: 1<<32 - 1})
	}
	wantBoth(t, c, bytesTold(c))
	if b, e := chunk.Put(c); e != api.OK || len(b) != 2+api.MaxKids*(1+1+api.MaxName+32+1+4) || len(b) > chunk.Most {
		t.Errorf("%d bytes, error %d", len(b), e)
	}
}

// wantAnswered fails unless a chunk that may be is put and taken, has no more than Most bytes, and is higher than its children.
func wantAnswered(t *testing.T, c chunk.Chunk) {
	t.Helper()
	b := bytesTold(c)
	wantBoth(t, c, b)
	if len(b) > chunk.Most {
		t.Fatalf("%s: %d bytes", brief(c), len(b))
	}
	if c.Height() > 255 || c.Size() > 1<<32-1 {
		t.Fatalf("%s: height %d, size %d", brief(c), c.Height(), c.Size())
	}
	for _, k := range c.Kids {
		if c.Height() <= int(k.Height) {
			t.Fatalf("%s: height %d, of a child %d", brief(c), c.Height(), k.Height)
		}
	}
}

func TestChunksAndBytesAnswerEachOther(t *testing.T) {
	r := rand.New(rand.NewPCG(12, 3))
	for range 20000 {
		wantAnswered(t, someChunk(r))
	}
}

// spoil changes one thing of a chunk, which may still be one.
func spoil(r *rand.Rand, c chunk.Chunk) chunk.Chunk {
	c = copied(c)
	if len(c.Kids) == 0 || r.IntN(5) == 0 {
		switch r.IntN(4) {
		case 0:
			c.Kind = uint8(r.IntN(5))
		case 1:
			c.Data = someText(r, r.IntN(2)*(238+r.IntN(5)))
		case 2:
			c.Kids = append(c.Kids, someKid(r, uint8(r.IntN(4))))
		default:
			c.Kids = nil
		}
		return c
	}
	k := &c.Kids[r.IntN(len(c.Kids))]
	switch r.IntN(5) {
	case 0:
		k.Name = someText(r, r.IntN(2)*r.IntN(19))
	case 1:
		k.Dir = !k.Dir
	case 2:
		k.Height = 253 + uint8(r.IntN(3))
	case 3:
		k.Size = ^uint32(0) >> r.IntN(4)
	default:
		k.Name = c.Kids[r.IntN(len(c.Kids))].Name
	}
	return c
}

// Whatever fields a chunk has, it is put if it may be, and refused if not.
func TestPutOfAnyChunks(t *testing.T) {
	r := rand.New(rand.NewPCG(12, 4))
	faults := map[string]int{}
	for range 60000 {
		c := spoil(r, someChunk(r))
		if r.IntN(4) == 0 {
			c = spoil(r, c)
		}
		fault := faultTold(c)
		faults[fault]++
		if fault == "" {
			wantAnswered(t, c)
		} else {
			wantNone(t, fault, c)
		}
	}
	for _, fault := range []string{"", "a kind that is none", "too many bytes", "a blob's children", "data of what is no blob", "too many children", "an index without children", "too high", "too much", "an entry in an index", "a name that may not be", "names that do not rise"} {
		if faults[fault] < 50 {
			t.Errorf("%q was met %d times", fault, faults[fault])
		}
	}
}

// wantTaken fails unless bytes are taken as the chapter's words take them, and what is taken is put as them again.
func wantTaken(t *testing.T, b string) bool {
	t.Helper()
	c, is := chunkTold(b)
	if is {
		wantBoth(t, c, b)
	} else {
		wantNoChunk(t, "bytes of none", b)
	}
	return is
}

// Bytes of which one is another one, or is missing, or one too many, are another chunk's, or none's.
func TestTakeOfBytesThatAreOthers(t *testing.T) {
	r := rand.New(rand.NewPCG(12, 5))
	taken, refused := 0, 0
	for range 300 {
		b := bytesTold(someChunk(r))
		for at := range len(b) {
			other := string([]byte{b[at] ^ byte(1+r.IntN(255))})
			near := string([]byte{b[at] ^ 1<<r.IntN(8)})
			for _, x := range []string{b[:at] + other + b[at+1:], b[:at] + near + b[at+1:], b[:at] + b[at+1:], b[:at] + other + b[at:], b[:at]} {
				if wantTaken(t, x) {
					taken++
				} else {
					refused++
				}
			}
		}
	}
	if taken < 1000 || refused < 1000 {
		t.Errorf("%d were taken, %d refused", taken, refused)
	}
}

// Any bytes at all, and such as begin as a chunk's.
func TestTakeOfAnyBytes(t *testing.T) {
	r := rand.New(rand.NewPCG(12, 6))
	for range 20000 {
		b := someText(r, r.IntN(400))
		wantTaken(t, b)
		head := string([]byte{byte(r.IntN(5)), byte(r.IntN(8))})
		wantTaken(t, head+b)
		wantTaken(t, head+b[:len(b)/37*37])
	}
}

// All bytes of one, two and some of three.
func TestTakeOfFewBytes(t *testing.T) {
	for a := range 256 {
		wantTaken(t, string([]byte{byte(a)}))
		for b := range 256 {
			wantTaken(t, string([]byte{byte(a), byte(b)}))
			if a < 5 && b < 9 {
				for c := range 256 {
					wantTaken(t, string([]byte{byte(a), byte(b), byte(c)}))
				}
			}
		}
	}
}
