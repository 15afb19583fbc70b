package pack_test

import (
	"strings"
	"testing"

	"armarium/api"
	"armarium/pack"
)

// wantState fails unless so many bytes are left, and Err and End answer these.
func wantState(t *testing.T, o *pack.Opener, left int, err, end api.Errno) {
	t.Helper()
	if o.Left() != left || o.Err() != err || o.End() != end {
		t.Errorf("left %d, error %d, end %d; want %d, %d, %d", o.Left(), o.Err(), o.End(), left, err, end)
	}
}

// wantFailed fails unless the opener reads nothing any more, and its error stays.
func wantFailed(t *testing.T, o *pack.Opener, left int, err api.Errno) {
	t.Helper()
	wantState(t, o, left, err, err)
	for _, width := range []int{1, 2, 4, 8, 3, -1} {
		if n := o.Take(width); n != 0 {
			t.Errorf("took %d of %d bytes", n, width)
		}
	}
	if h := o.Hash(); h != (api.Hash{}) {
		t.Errorf("took the hash % x", h)
	}
	for _, n := range []int{0, 1, -1} {
		if s := o.Text(n); s != "" {
			t.Errorf("took the text %q", s)
		}
	}
	if s := o.Name(); s != "" {
		t.Errorf("took the name %q", s)
	}
	wantState(t, o, left, err, err)
}

// P1.2

func TestTakeHighestByteFirst(t *testing.T) {
	o := pack.Of([]byte{0x12, 0x34, 0x56, 0x78, 0x9a, 0xbc, 0xde, 0xf0, 1, 2, 3, 4, 5, 6, 255})
	if n := o.Take(2); n != 0x1234 {
		t.Errorf("2 bytes: %x", n)
	}
	wantState(t, o, 13, api.OK, api.ErrForm)
	if n := o.Take(4); n != 0x56789abc {
		t.Errorf("4 bytes: %x", n)
	}
	if n := o.Take(8); n != 0xdef0010203040506 {
		t.Errorf("8 bytes: %x", n)
	}
	if n := o.Take(1); n != 255 {
		t.Errorf("1 byte: %x", n)
	}
	wantState(t, o, 0, api.OK, api.OK)
}

func TestTakeExampleOfTheChapter(t *testing.T) {
	o := pack.Of([]byte{1, 2, 2, 'a', 'b'})
	if n, s := o.Take(2), o.Name(); n != 258 || s != "ab" {
		t.Errorf("%d, %q", n, s)
	}
	wantState(t, o, 0, api.OK, api.OK)
}

func TestTakeWidthsThatMayNotBe(t *testing.T) {
	const least, most = -1 << 63, 1<<63 - 1
	for _, width := range []int{least, -8, -1, 0, 3, 5, 6, 7, 9, 16, 32, 1 << 32, most} {
		o := pack.Of(make([]byte, 40))
		if n := o.Take(width); n != 0 {
			t.Errorf("width %d: took %d", width, n)
		}
		wantFailed(t, o, 40, api.ErrForm)
	}
}

func TestFewerBytesLeftThanAskedFor(t *testing.T) {
	for _, width := range []int{1, 2, 4, 8} {
		o := pack.Of([]byte(strings.Repeat("\xff", width-1)))
		if n := o.Take(width); n != 0 {
			t.Errorf("width %d: took %d", width, n)
		}
		wantFailed(t, o, width-1, api.ErrForm)
	}
	o := pack.Of([]byte(strings.Repeat("\xff", 31)))
	if h := o.Hash(); h != (api.Hash{}) {
		t.Errorf("took the hash % x", h)
	}
	wantFailed(t, o, 31, api.ErrForm)
	o = pack.Of([]byte("abc"))
	if s := o.Text(4); s != "" {
		t.Errorf("took the text %q", s)
	}
	wantFailed(t, o, 3, api.ErrForm)
	o = pack.Of([]byte("abc"))
	if s := o.Text(1<<63 - 1); s != "" {
		t.Errorf("took the text %q", s)
	}
	wantFailed(t, o, 3, api.ErrForm)
}

func TestHashTakesItsBytes(t *testing.T) {
	h := ascending()
	o := pack.Of(append(h[:], 'z'))
	if got := o.Hash(); got != h {
		t.Errorf("took % x", got)
	}
	wantState(t, o, 1, api.OK, api.ErrForm)
}

func TestTextTakesSoManyBytes(t *testing.T) {
	o := pack.Of([]byte("ab\x00\xff"))
	if s := o.Text(0); s != "" {
		t.Errorf("0 bytes: %q", s)
	}
	wantState(t, o, 4, api.OK, api.ErrForm)
	if s := o.Text(1); s != "a" {
		t.Errorf("1 byte: %q", s)
	}
	if s := o.Text(3); s != "b\x00\xff" {
		t.Errorf("3 bytes: %q", s)
	}
	if s := o.Text(0); s != "" {
		t.Errorf("0 bytes at the end: %q", s)
	}
	wantState(t, o, 0, api.OK, api.OK)
}

func TestTextOfFewerThanNoBytes(t *testing.T) {
	for _, n := range []int{-1, -2, -1 << 63} {
		o := pack.Of([]byte("abc"))
		if s := o.Text(n); s != "" {
			t.Errorf("%d bytes: %q", n, s)
		}
		wantFailed(t, o, 3, api.ErrForm)
	}
}

func TestNameTakesAsManyBytesAsItSays(t *testing.T) {
	long := strings.Repeat("n", 255)
	o := pack.Of([]byte("\x00\x02ab\xff" + long + "z"))
	if s := o.Name(); s != "" {
		t.Errorf("no bytes: %q", s)
	}
	if s := o.Name(); s != "ab" {
		t.Errorf("2 bytes: %q", s)
	}
	if s := o.Name(); s != long {
		t.Errorf("255 bytes: %q", s)
	}
	wantState(t, o, 1, api.OK, api.ErrForm)
}

func TestNameThatEndsTooSoon(t *testing.T) {
	for _, b := range []string{"", "\x01", "\x03ab", "\xff" + strings.Repeat("n", 254)} {
		o := pack.Of([]byte(b))
		if s := o.Name(); s != "" {
			t.Errorf("of %q: %q", b, s)
		}
		wantFailed(t, o, len(b), api.ErrForm)
	}
}

func TestOpenerWithoutBytes(t *testing.T) {
	wantState(t, pack.Of(nil), 0, api.OK, api.OK)
	wantState(t, pack.Of([]byte{}), 0, api.OK, api.OK)
}

func TestTheOpenersErrorStays(t *testing.T) {
	o := pack.Of([]byte{9, 8, 7})
	if n := o.Take(1); n != 9 {
		t.Errorf("took %d", n)
	}
	o.Take(4)
	wantFailed(t, o, 2, api.ErrForm)
}

// End only asks: bytes that are left can still be taken behind it.
func TestEndChangesNothing(t *testing.T) {
	o := pack.Of([]byte{9})
	wantState(t, o, 1, api.OK, api.ErrForm)
	if n := o.Take(1); n != 9 {
		t.Errorf("took %d", n)
	}
	wantState(t, o, 0, api.OK, api.OK)
}

func TestBytesHandedInAreNotKept(t *testing.T) {
	b := []byte("\x01abc")
	o := pack.Of(b)
	copy(b, "XYZW")
	if s := o.Name(); s != "a" {
		t.Errorf("took %q", s)
	}
	copy(b, "0123")
	if s := o.Text(2); s != "bc" {
		t.Errorf("took %q", s)
	}
	if string(b) != "0123" {
		t.Errorf("what was handed in became %q", b)
	}
}

func TestTwoOpenersOfTheSameBytes(t *testing.T) {
	b := []byte("ab")
	o, q := pack.Of(b), pack.Of(b)
	o.Text(3)
	if s := q.Text(2); s != "ab" {
		t.Errorf("took %q", s)
	}
	wantState(t, q, 0, api.OK, api.OK)
}

func TestNilOpener(t *testing.T) {
	wantFailed(t, nil, 0, api.ErrNil)
}
