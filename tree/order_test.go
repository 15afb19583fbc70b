package tree_test

import (
	"math/rand/v2"
	"slices"
	"strings"
	"testing"

	"armarium/api"
	"armarium/node"
)

// P10.2

// grown is a pair of so many keys, of even numbers.
func grown(t *testing.T, shape node.Shape, keys int) *pair {
	t.Helper()
	p := newPair(newStore(t, 512), shape)
	for i := range keys {
		p.put(t, keyOf(shape.KW, 2*(i*7919%keys)+2), valOf(shape, i))
	}
	p.wantMap(t)
	return p
}

// Of each key, and of what lies between two of them, in a tree of one, of two, and of more levels.
func TestFromOfKeys(t *testing.T) {
	for _, keys := range []int{0, 1, 3, 4, 8, 30, 120} {
		p := grown(t, node.Shape{KW: 64, VW: 64}, keys)
		for i := range 2*keys + 4 {
			p.wantFrom(t, keyOf(64, i), false)
			p.wantFrom(t, keyOf(64, i), true)
		}
	}
	for _, keys := range []int{13, 14, 100, 400} {
		p := grown(t, node.Shape{KW: 33, VW: 4}, keys)
		for i := range 2*keys + 4 {
			p.wantFrom(t, keyOf(33, i), i%3 == 0)
		}
	}
}

// The key may have any width: texts stand by their bytes, and a part of one ahead of it.
func TestFromOfAnyWidth(t *testing.T) {
	p := grown(t, node.Shape{KW: 2, VW: 64}, 300)
	for _, key := range []string{"", "\x00", "\x01", "\x02", "\x02\x58", "\x02\x58\x00", "\x02\x59", "\x03", "\x00\x02", "\x00\x02\x00", "\x00\x02\xff", "\xff", "\xff\xff", "\xff\xff\xff", strings.Repeat("\x00", 1000), strings.Repeat("\xff", 1000)} {
		p.wantFrom(t, key, false)
		p.wantFrom(t, key, true)
	}
	r := rand.New(rand.NewPCG(10, 2))
	for range 500 {
		b := make([]byte, r.IntN(5))
		for i := range b {
			b[i] = byte(r.IntN(4))
		}
		p.wantFrom(t, string(b), r.IntN(2) == 0)
	}
}

// From goes through a tree by what it answered.
func TestFromGoesOn(t *testing.T) {
	p := grown(t, node.Shape{KW: 64, VW: 38}, 100)
	var l []string
	key, _, is, e := p.From("", false)
	for is {
		l = append(l, key)
		key, _, is, e = p.From(key, false)
	}
	if want := p.wantMap(t).keys; e != api.OK || !slices.Equal(l, want) {
		t.Errorf("%v: %d keys; want %d", e, len(l), len(want))
	}
}

// Each tells no more behind a false.
func TestEachStops(t *testing.T) {
	for _, keys := range []int{0, 1, 3, 4, 60} {
		p := grown(t, node.Shape{KW: 64, VW: 64}, keys)
		for stop := range keys + 2 {
			var l []string
			e := p.Each(func(key, val string) bool {
				l = append(l, key)
				return len(l) < stop
			})
			if n := min(max(stop, 1), keys); e != api.OK || !slices.Equal(l, p.wantMap(t).keys[:n]) {
				t.Errorf("%v: of %d keys %d are told; want %d", e, keys, len(l), n)
			}
		}
	}
}
