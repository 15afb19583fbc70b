package pack_test

import (
	"bytes"
	"math/rand/v2"
	"testing"

	"armarium/api"
	"armarium/pack"
)

// P1.3

// thing is one of the things that can be put and taken.
type thing struct {
	width  int // of a number; 0 of anything else
	number uint64
	hash   bool
	sum    api.Hash
	name   bool
	text   string // of a name, or of a text alone
}

func someBytes(r *rand.Rand, n int) []byte {
	b := make([]byte, n)
	for i := range b {
		b[i] = byte(r.Uint32())
	}
	return b
}

func someThing(r *rand.Rand) thing {
	switch r.IntN(4) {
	case 0:
		width := 1 << r.IntN(4)
		return thing{width: width, number: r.Uint64() >> (64 - 8*width)}
	case 1:
		return thing{hash: true, sum: api.Hash(someBytes(r, 32))}
	case 2:
		return thing{name: true, text: string(someBytes(r, r.IntN(256)))}
	}
	return thing{text: string(someBytes(r, r.IntN(600)))}
}

func (x thing) put(p *pack.Packer) {
	switch {
	case x.width > 0:
		p.Put(x.width, x.number)
	case x.hash:
		p.Hash(x.sum)
	case x.name:
		p.Name(x.text)
	default:
		p.Text(x.text)
	}
}

// take takes a thing of the same kind.
func (x thing) take(o *pack.Opener) thing {
	switch {
	case x.width > 0:
		return thing{width: x.width, number: o.Take(x.width)}
	case x.hash:
		return thing{hash: true, sum: o.Hash()}
	case x.name:
		return thing{name: true, text: o.Name()}
	}
	return thing{text: o.Text(len(x.text))}
}

func TestWhatIsPutIsTakenAsItself(t *testing.T) {
	r := rand.New(rand.NewPCG(1, 3))
	for range 500 {
		p := pack.New()
		l := make([]thing, r.IntN(12))
		for i := range l {
			l[i] = someThing(r)
			l[i].put(p)
		}
		b, e := p.Bytes()
		if e != api.OK {
			t.Fatalf("error %d of %v", e, l)
		}
		o := pack.Of(b)
		for _, x := range l {
			if got := x.take(o); got != x {
				t.Fatalf("took %v; want %v", got, x)
			}
		}
		wantState(t, o, 0, api.OK, api.OK)
	}
}

func TestWhatIsTakenAndPutAgainIsTheSameBytes(t *testing.T) {
	r := rand.New(rand.NewPCG(2, 3))
	for range 500 {
		b := someBytes(r, r.IntN(2000))
		o, p := pack.Of(b), pack.New()
		for {
			was := o.Left()
			got := someThing(r).take(o)
			if o.Err() != api.OK {
				if o.Left() != was {
					t.Fatalf("what failed took %d bytes", was-o.Left())
				}
				break
			}
			got.put(p)
		}
		again, e := p.Bytes()
		if taken := b[:len(b)-o.Left()]; e != api.OK || !bytes.Equal(again, taken) {
			t.Fatalf("put again: % x, error %d; want % x", again, e, taken)
		}
	}
}
