package pack

import (
	"slices"

	"armarium/api"
)

// noWidth is asked for instead of a width that may not be: no reader has fewer than 0 bytes to give.
const noWidth = -1

// reader gives the next n bytes, or none and an error.
type reader func(n int) ([]byte, api.Errno)

// failing is a reader that has nothing to give, however often it is asked.
func failing(e api.Errno) reader {
	return func(int) ([]byte, api.Errno) { return nil, e }
}

// Opener has bytes, and reads what stands next.
type Opener struct {
	left   []byte
	failed reader // nil till something failed
}

// Of answers an opener of bytes. They are copied, as the caller may change them meanwhile.
func Of(b []byte) *Opener { return &Opener{left: slices.Clone(b)} }

// Take reads a number of so many bytes.
func (o *Opener) Take(width int) uint64 {
	if !isWidth(width) {
		width = noWidth
	}
	return read(o, width, number)
}

// Hash reads a hash.
func (o *Opener) Hash() api.Hash {
	return read(o, len(api.Hash{}), func(b []byte) api.Hash { return api.Hash(b) })
}

// Text reads a text of n bytes.
func (o *Opener) Text(n int) string {
	return read(o, n, func(b []byte) string { return string(b) })
}

// Name reads a text with a byte ahead that says how many bytes it has. Both are read at once, so that of a name that ends too soon nothing is read.
func (o *Opener) Name() string {
	n := 1
	if o.Left() > 0 {
		n += int(o.left[0])
	}
	return read(o, n, func(b []byte) string { return string(b[1:]) })
}

// Left says how many bytes were not read.
func (o *Opener) Left() int {
	if o == nil {
		return 0
	}
	return len(o.left)
}

// Err answers the first error.
func (o *Opener) Err() api.Errno {
	_, e := o.reader()(0)
	return e
}

// End answers the first error, or ErrForm if bytes are left. It only asks: what is left can still be read.
func (o *Opener) End() api.Errno {
	if e := o.Err(); e != api.OK {
		return e
	}
	if o.Left() > 0 {
		return api.ErrForm
	}
	return api.OK
}

// reader is what gives the opener's next bytes: the opener itself, till something failed.
func (o *Opener) reader() reader {
	if o == nil {
		return failing(api.ErrNil)
	}
	if o.failed != nil {
		return o.failed
	}
	return o.next
}

// next gives the next n bytes; if there are not so many, the opener fails from now on.
func (o *Opener) next(n int) ([]byte, api.Errno) {
	if n < 0 || n > len(o.left) {
		o.failed = failing(api.ErrForm)
		return o.failed(n)
	}
	b := o.left[:n]
	o.left = o.left[n:]
	return b, api.OK
}

// read tells what the next n bytes say, or a zero where the reader fails.
func read[T any](o *Opener, n int, tell func(b []byte) T) T {
	b, e := o.reader()(n)
	if e != api.OK {
		var zero T
		return zero
	}
	return tell(b)
}

// number is the number that bytes say, the highest one first.
func number(b []byte) uint64 {
	var n uint64
	for _, x := range b {
		n = n<<8 | uint64(x)
	}
	return n
}
