package chunk_test

import (
	"fmt"
	"slices"
	"strings"
	"testing"

	"armarium/api"
	"armarium/chunk"
)

// both are the kinds that have children.
var both = []uint8{chunk.Index, chunk.Dir}

// hashOf is a hash of one byte, again and again.
func hashOf(b byte) api.Hash { return api.Hash([]byte(strings.Repeat(string([]byte{b}), 32))) }

// P12.2

func TestBytesOfTheChaptersExamples(t *testing.T) {
	wantBoth(t, chunk.Chunk{Kind: chunk.Blob, Data: "ab"}, "\x01ab")
	wantBoth(t, chunk.Chunk{Kind: chunk.Dir}, "\x03\x00")
	wantBoth(t, chunk.Chunk{Kind: chunk.Dir, Kids: []chunk.Kid{}}, "\x03\x00")
}

func TestBytesOfAnIndexByteByByte(t *testing.T) {
	c := chunk.Chunk{Kind: chunk.Index, Kids: []chunk.Kid{{Hash: hashOf('h'), Height: 7, Size: 0x01020304}, {Hash: hashOf('i'), Height: 254, Size: 0xfe000000}}}
	wantBoth(t, c, "\x02\x02"+strings.Repeat("h", 32)+"\x07\x01\x02\x03\x04"+strings.Repeat("i", 32)+"\xfe\xfe\x00\x00\x00")
}

func TestBytesOfADirectoryByteByByte(t *testing.T) {
	c := chunk.Chunk{Kind: chunk.Dir, Kids: []chunk.Kid{{Name: "ab", Hash: hashOf('h'), Height: 7, Size: 0x01020304}, {Name: "b", Dir: true, Hash: hashOf('i'), Height: 254}}}
	wantBoth(t, c, "\x03\x02\x00\x02ab"+strings.Repeat("h", 32)+"\x07\x01\x02\x03\x04\x01\x01b"+strings.Repeat("i", 32)+"\xfe\x00\x00\x00\x00")
}

func TestBlobsOfAllLengths(t *testing.T) {
	for n := range api.MaxBlob + 1 {
		wantBoth(t, chunk.Chunk{Kind: chunk.Blob, Data: text(n)}, "\x01"+text(n))
	}
	for _, n := range []int{api.MaxBlob + 1, chunk.Most - 1, chunk.Most, 1000, 1 << 20} {
		wantRefused(t, "too many bytes", chunk.Chunk{Kind: chunk.Blob, Data: text(n)})
	}
	wantBoth(t, chunk.Chunk{Kind: chunk.Blob, Data: "\x00\xff\x80"}, "\x01\x00\xff\x80")
}

func TestAllNumbersOfChildren(t *testing.T) {
	for _, kind := range both {
		for n := 1; n <= api.MaxKids; n++ {
			c := chunk.Chunk{Kind: kind, Kids: kids(kind, n)}
			wantBoth(t, c, bytesTold(c))
		}
		for _, n := range []int{api.MaxKids + 1, 9, 10, 255} {
			wantRefused(t, "too many children", chunk.Chunk{Kind: kind, Kids: kids(kind, n)})
		}
		for _, n := range []int{256, 256 + api.MaxKids, 70000} { // as many as the byte that counts them can not say
			wantNone(t, "too many children", chunk.Chunk{Kind: kind, Kids: kids(kind, n)})
		}
	}
	wantRefused(t, "an index without children", chunk.Chunk{Kind: chunk.Index})
	wantRefused(t, "an index without children", chunk.Chunk{Kind: chunk.Index, Kids: []chunk.Kid{}})
}

func TestKindsThatAreNone(t *testing.T) {
	for kind := range 256 {
		if kind >= 1 && kind <= 3 {
			continue
		}
		k := string([]byte{byte(kind)})
		for _, c := range []chunk.Chunk{{}, {Data: "ab"}, {Kids: kids(chunk.Index, 1)}, {Kids: kids(chunk.Dir, 1)}} {
			c.Kind = uint8(kind)
			wantNone(t, "a kind that is none", c)
			c.Kind = chunk.Index
			wantNoChunk(t, "a kind that is none", k+bytesTold(c)[1:])
		}
		wantNoChunk(t, "a kind that is none", k)
		wantNoChunk(t, "a kind that is none", k+"ab")
	}
}

// What a kind does not have would not be in its bytes.
func TestFieldsThatAKindDoesNotHave(t *testing.T) {
	wantNone(t, "a blob with a child", chunk.Chunk{Kind: chunk.Blob, Data: "ab", Kids: kids(chunk.Index, 1)})
	wantNone(t, "a blob with a child", chunk.Chunk{Kind: chunk.Blob, Kids: make([]chunk.Kid, 1)})
	for _, kind := range both {
		wantNone(t, "data beside children", chunk.Chunk{Kind: kind, Data: "a", Kids: kids(kind, 1)})
	}
	wantNone(t, "a directory's data", chunk.Chunk{Kind: chunk.Dir, Data: "\x00"})
	wantBoth(t, chunk.Chunk{Kind: chunk.Blob, Kids: []chunk.Kid{}}, "\x01")
}

func TestChildrenOfAnIndexAreNoEntries(t *testing.T) {
	for at := range 3 {
		c := chunk.Chunk{Kind: chunk.Index, Kids: kids(chunk.Index, 3)}
		c.Kids[at].Dir = true
		wantNone(t, "a directory in an index", c)
		c.Kids[at].Dir, c.Kids[at].Name = false, "a"
		wantNone(t, "a name in an index", c)
		c.Kids[at].Name = "\x00"
		wantNone(t, "a name in an index", c)
		c.Kids[at].Name = ""
		wantBoth(t, c, bytesTold(c))
	}
	same := chunk.Kid{Hash: hashOf(1), Height: 1, Size: 1}
	c := chunk.Chunk{Kind: chunk.Index, Kids: []chunk.Kid{same, same, same}} // nothing is asked of how they stand
	wantBoth(t, c, bytesTold(c))
}

func TestNamesOfAllLengths(t *testing.T) {
	for n := range 300 {
		c := chunk.Chunk{Kind: chunk.Dir, Kids: []chunk.Kid{{Name: text(n)}}}
		switch {
		case n >= 1 && n <= api.MaxName:
			wantBoth(t, c, bytesTold(c))
		case n <= 255:
			wantRefused(t, "a name that may not be", c)
		default: // the byte ahead of a name can not say so many
			wantNone(t, "a name that may not be", c)
		}
	}
	for at := range 3 { // not only the first one
		for _, name := range []string{"", text(api.MaxName + 1)} {
			c := chunk.Chunk{Kind: chunk.Dir, Kids: []chunk.Kid{{Name: "a"}, {Name: "b"}, {Name: "c"}}}
			c.Kids[at].Name = name
			wantRefused(t, "a name that may not be", c)
		}
	}
	c := chunk.Chunk{Kind: chunk.Dir, Kids: []chunk.Kid{{Name: "a"}, {Name: "b"}, {Name: "b" + text(api.MaxName)}}}
	wantRefused(t, "a name that is too long, and rises", c)
}

// A name is any bytes here.
func TestNamesOfAnyBytes(t *testing.T) {
	for b := range 256 {
		c := chunk.Chunk{Kind: chunk.Dir, Kids: []chunk.Kid{{Name: string([]byte{byte(b)})}}}
		wantBoth(t, c, bytesTold(c))
	}
	c := chunk.Chunk{Kind: chunk.Dir, Kids: []chunk.Kid{{Name: "\x00"}, {Name: "\x00\x00"}, {Name: "."}, {Name: ".."}, {Name: "a/b"}, {Name: "\xff\xfe"}}}
	wantBoth(t, c, bytesTold(c))
}

func TestNamesRiseByteByByte(t *testing.T) {
	rising := []string{"\x00", "B", "a", "a\x00", "aa", "ab", "b", "\x7f", "\x80", "é", "\xff"}
	for i, a := range rising {
		for j, b := range rising {
			c := chunk.Chunk{Kind: chunk.Dir, Kids: []chunk.Kid{{Name: a}, {Name: b}}}
			if i < j {
				wantBoth(t, c, bytesTold(c))
			} else {
				wantRefused(t, "names that do not rise", c)
			}
		}
	}
	for at := range api.MaxKids - 1 { // wherever two stand
		c := chunk.Chunk{Kind: chunk.Dir, Kids: kids(chunk.Dir, api.MaxKids)}
		c.Kids[at], c.Kids[at+1] = c.Kids[at+1], c.Kids[at]
		wantRefused(t, "names that fall", c)
		c.Kids[at] = c.Kids[at+1]
		wantRefused(t, "one name twice", c)
		c.Kids[at].Dir = !c.Kids[at].Dir
		c.Kids[at].Hash[0]++
		wantRefused(t, "one name of two unlike children", c)
	}
	c := chunk.Chunk{Kind: chunk.Dir, Kids: []chunk.Kid{{Name: "a"}, {Name: "b"}, {Name: "a"}}}
	wantRefused(t, "one name, and one between", c)
}

func TestHeightsOfChildren(t *testing.T) {
	for _, kind := range both {
		for n := 1; n <= api.MaxKids; n++ {
			for at := range n {
				c := chunk.Chunk{Kind: kind, Kids: kids(kind, n)}
				c.Kids[at].Height = 254
				wantBoth(t, c, bytesTold(c))
				c.Kids[at].Height = 255
				wantRefused(t, "too high", c)
			}
		}
	}
}

func TestSizesOfAnIndexsChildren(t *testing.T) {
	for n := 1; n <= api.MaxKids; n++ {
		c := chunk.Chunk{Kind: chunk.Index, Kids: kids(chunk.Index, n)}
		for i := range c.Kids {
			c.Kids[i].Size = 1
		}
		for at := range n {
			c.Kids[at].Size = ^uint32(0) - uint32(n-1)
			wantBoth(t, c, bytesTold(c))
			if n > 1 { // a single child's size has no room for more
				c.Kids[at].Size++
				wantRefused(t, "too much", c)
			}
			c.Kids[at].Size = 1
		}
	}
	c := chunk.Chunk{Kind: chunk.Index, Kids: kids(chunk.Index, 4)}
	for i := range c.Kids {
		c.Kids[i].Size = 1 << 30 // a sum of 32 bits would be 0
	}
	wantRefused(t, "too much", c)
	for i := range c.Kids {
		c.Kids[i].Size = 0
	}
	wantBoth(t, c, bytesTold(c))
}

// A directory's size is 0, whatever its children have; and what they have is not held against what they are.
func TestSizesOfADirectorysChildren(t *testing.T) {
	c := chunk.Chunk{Kind: chunk.Dir, Kids: kids(chunk.Dir, api.MaxKids)}
	for i := range c.Kids {
		c.Kids[i].Size = 1<<32 - 1
	}
	wantBoth(t, c, bytesTold(c))
	c.Kids = []chunk.Kid{{Name: "a", Dir: true, Height: 0, Size: 5}, {Name: "b", Height: 254, Size: 0}}
	wantBoth(t, c, bytesTold(c))
}

func TestTakeWithoutBytes(t *testing.T) {
	if c, e := chunk.Take(nil); e != api.ErrForm || c.Kind != 0 || c.Data != "" || len(c.Kids) != 0 {
		t.Errorf("took %s, error %d", brief(c), e)
	}
	wantNoChunk(t, "no bytes", "")
	wantNoChunk(t, "a kind alone", "\x02")
	wantNoChunk(t, "a kind alone", "\x03")
	wantBoth(t, chunk.Chunk{Kind: chunk.Blob}, "\x01") // a blob needs no more
}

func TestTakeBytesThatEndTooSoonOrTooLate(t *testing.T) {
	for _, kind := range both {
		for n := 1; n <= api.MaxKids; n++ {
			b := bytesTold(chunk.Chunk{Kind: kind, Kids: kids(kind, n)})
			for i := range len(b) {
				wantNoChunk(t, "bytes that end too soon", b[:i])
			}
			for _, more := range []string{"\x00", "a", b[2:], b, text(chunk.Most), text(100000)} {
				wantNoChunk(t, "bytes behind a chunk's", b+more)
			}
		}
	}
	wantNoChunk(t, "bytes behind a chunk's", "\x03\x00\x00")
	wantNoChunk(t, "bytes behind a chunk's", "\x03\x00"+text(1<<20))
}

func TestTakeNumbersOfChildrenThatAreNot(t *testing.T) {
	for _, kind := range both {
		for n := 1; n <= api.MaxKids; n++ {
			b := []byte(bytesTold(chunk.Chunk{Kind: kind, Kids: kids(kind, n)}))
			for told := range 256 {
				if told != n {
					b[1] = byte(told)
					wantNoChunk(t, fmt.Sprintf("%d children that are told to be %d", n, told), string(b))
				}
			}
		}
	}
}

func TestTakeDirectoriesThatAreNeither(t *testing.T) {
	c := chunk.Chunk{Kind: chunk.Dir, Kids: []chunk.Kid{{Name: "a"}, {Name: "b"}}}
	for _, at := range []int{2, 2 + 2 + 1 + 37} {
		for flag := range 256 {
			b := []byte(bytesTold(c))
			b[at] = byte(flag)
			if flag > 1 {
				wantNoChunk(t, "a child that is neither", string(b))
			} else if x, e := chunk.Take(b); e != api.OK || x.Kids[(at-2)/40].Dir != (flag == 1) {
				t.Errorf("%d: took %s, error %d", flag, brief(x), e)
			}
		}
	}
}

func TestBytesOfAPutAreNewMemory(t *testing.T) {
	c := chunk.Chunk{Kind: chunk.Dir, Kids: kids(chunk.Dir, 2)}
	was := copied(c)
	b, _ := chunk.Put(c)
	clear(b)
	_ = append(b, 'x')
	if !same(c, was) {
		t.Errorf("what was put became %s", brief(c))
	}
	wantBoth(t, c, bytesTold(was))
	b, _ = chunk.Put(c)
	c.Kids[0].Name, c.Kids[0].Hash[0] = "N", 99
	if string(b) != bytesTold(was) {
		t.Error("bytes became others")
	}
}

func TestATakenChunkIsNewMemory(t *testing.T) {
	for _, c := range []chunk.Chunk{{Kind: chunk.Blob, Data: "abc"}, {Kind: chunk.Index, Kids: kids(chunk.Index, 3)}, {Kind: chunk.Dir, Kids: kids(chunk.Dir, 3)}} {
		b := []byte(bytesTold(c))
		x, _ := chunk.Take(b)
		y, _ := chunk.Take(b)
		clear(b)
		if !same(x, c) || !same(y, c) {
			t.Errorf("what was taken became %s, %s", brief(x), brief(y))
		}
		clear(x.Kids)
		if x.Kids = slices.Insert(x.Kids, 0, chunk.Kid{Name: "z"}); !same(y, c) {
			t.Errorf("another one became %s", brief(y))
		}
	}
}
