package pack_test

import (
	"bytes"
	"strings"
	"testing"

	"armarium/api"
	"armarium/pack"
)

// wantBytes fails unless the packer answers just these bytes, and no error.
func wantBytes(t *testing.T, p *pack.Packer, want ...byte) {
	t.Helper()
	if b, e := p.Bytes(); e != api.OK || !bytes.Equal(b, want) {
		t.Errorf("bytes % x, error %d; want % x", b, e, want)
	}
}

// wantNoBytes fails unless the packer answers no bytes, and that error.
func wantNoBytes(t *testing.T, p *pack.Packer, want api.Errno) {
	t.Helper()
	if b, e := p.Bytes(); e != want || len(b) != 0 {
		t.Errorf("bytes % x, error %d; want none, error %d", b, e, want)
	}
}

func ascending() api.Hash {
	var h api.Hash
	for i := range h {
		h[i] = byte(i + 1)
	}
	return h
}

// P1.1

func TestNewPackerHasNoBytes(t *testing.T) {
	wantBytes(t, pack.New())
}

func TestPutHighestByteFirst(t *testing.T) {
	wantBytes(t, pack.New().Put(1, 0x12), 0x12)
	wantBytes(t, pack.New().Put(2, 0x1234), 0x12, 0x34)
	wantBytes(t, pack.New().Put(4, 0x12345678), 0x12, 0x34, 0x56, 0x78)
	wantBytes(t, pack.New().Put(8, 0x123456789abcdef0), 0x12, 0x34, 0x56, 0x78, 0x9a, 0xbc, 0xde, 0xf0)
	wantBytes(t, pack.New().Put(4, 1), 0, 0, 0, 1)
	wantBytes(t, pack.New().Put(8, 0), 0, 0, 0, 0, 0, 0, 0, 0)
}

func TestPutExampleOfTheChapter(t *testing.T) {
	wantBytes(t, pack.New().Put(2, 258).Name("ab"), 1, 2, 2, 'a', 'b')
}

func TestPutGreatestNumberOfAWidth(t *testing.T) {
	for _, width := range []int{1, 2, 4} {
		most := uint64(1)<<(8*width) - 1
		wantBytes(t, pack.New().Put(width, most), bytes.Repeat([]byte{255}, width)...)
		wantNoBytes(t, pack.New().Put(width, most+1), api.ErrLimit)
		wantNoBytes(t, pack.New().Put(width, 1<<63), api.ErrLimit)
	}
	wantBytes(t, pack.New().Put(8, 1<<64-1), bytes.Repeat([]byte{255}, 8)...)
}

func TestPutWidthsThatMayNotBe(t *testing.T) {
	const least, most = -1 << 63, 1<<63 - 1
	for _, width := range []int{least, -8, -1, 0, 3, 5, 6, 7, 9, 16, 64, 1 << 32, most} {
		wantNoBytes(t, pack.New().Put(width, 0), api.ErrLimit)
		wantNoBytes(t, pack.New().Put(width, 1<<64-1), api.ErrLimit)
	}
}

func TestHashPutsItsBytes(t *testing.T) {
	h := ascending()
	wantBytes(t, pack.New().Hash(h), h[:]...)
	wantBytes(t, pack.New().Hash(api.Hash{}), make([]byte, 32)...)
}

func TestTextPutsItsBytesAlone(t *testing.T) {
	wantBytes(t, pack.New().Text(""))
	wantBytes(t, pack.New().Text("a\x00\xff"), 'a', 0, 255)
	long := strings.Repeat("x", 70000)
	wantBytes(t, pack.New().Text(long), []byte(long)...)
}

func TestNamePutsItsLengthAhead(t *testing.T) {
	wantBytes(t, pack.New().Name(""), 0)
	wantBytes(t, pack.New().Name("a\xff"), 2, 'a', 255)
	long := strings.Repeat("n", 255)
	wantBytes(t, pack.New().Name(long), append([]byte{255}, long...)...)
	wantNoBytes(t, pack.New().Name(long+"n"), api.ErrLimit)
	wantNoBytes(t, pack.New().Name(strings.Repeat("n", 512)), api.ErrLimit)
}

func TestWhatIsPutStandsBehindWhatThereWas(t *testing.T) {
	h := ascending()
	p := pack.New().Put(1, 7).Hash(h).Text("ab").Name("c").Put(2, 8)
	want := append(append([]byte{7}, h[:]...), 'a', 'b', 1, 'c', 0, 8)
	wantBytes(t, p, want...)
	wantBytes(t, p.Text("z"), append(want, 'z')...)
}

func TestThePackerItselfIsAnswered(t *testing.T) {
	p := pack.New()
	if p.Put(1, 1) != p || p.Hash(api.Hash{}) != p || p.Text("a") != p || p.Name("b") != p {
		t.Error("another packer")
	}
	if p.Put(3, 1) != p || p.Put(1, 1) != p || p.Hash(api.Hash{}) != p || p.Text("a") != p || p.Name("b") != p {
		t.Error("another packer behind an error")
	}
}

func TestTwoPackersShareNothing(t *testing.T) {
	p, q := pack.New().Text("p"), pack.New().Text("q")
	p.Text("1").Put(3, 0)
	wantBytes(t, q.Text("2"), 'q', '2')
	wantNoBytes(t, p, api.ErrLimit)
}

func TestThePackersErrorStays(t *testing.T) {
	for _, p := range []*pack.Packer{pack.New().Text("a").Put(3, 1), pack.New().Text("a").Put(1, 256), pack.New().Text("a").Name(strings.Repeat("n", 256))} {
		wantNoBytes(t, p, api.ErrLimit)
		wantNoBytes(t, p, api.ErrLimit)
		wantNoBytes(t, p.Put(1, 1), api.ErrLimit)
		wantNoBytes(t, p.Hash(api.Hash{}), api.ErrLimit)
		wantNoBytes(t, p.Text("a"), api.ErrLimit)
		wantNoBytes(t, p.Name("a"), api.ErrLimit)
		wantNoBytes(t, p.Put(0, 1), api.ErrLimit)
	}
}

func TestBytesAreNewMemory(t *testing.T) {
	p := pack.New().Text("abc")
	b, _ := p.Bytes()
	b[0] = 'X'
	_ = append(b, 'Y')
	wantBytes(t, p, 'a', 'b', 'c')
	p.Text("d")
	wantBytes(t, p, 'a', 'b', 'c', 'd')
	if string(b) != "Xbc" {
		t.Errorf("an answer became %q", b)
	}
}

func TestNilPacker(t *testing.T) {
	var p *pack.Packer
	if p.Put(1, 1) != nil || p.Put(3, 1) != nil || p.Put(1, 256) != nil || p.Hash(api.Hash{}) != nil || p.Text("a") != nil || p.Name("a") != nil || p.Name(strings.Repeat("n", 256)) != nil {
		t.Error("of nil came a packer")
	}
	wantNoBytes(t, p, api.ErrNil)
	wantNoBytes(t, p.Put(3, 1).Text("a"), api.ErrNil)
}
