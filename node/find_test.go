package node_test

import (
	"math/rand/v2"
	"slices"
	"testing"

	"armarium/node"
)

// wantPlaces fails unless Find and Down tell of a key those places among a node's keys.
func wantPlaces(t *testing.T, n node.Node, key string, less int, is bool, down int) {
	t.Helper()
	at, found := n.Find(key)
	if at != less || found != is || n.Down(key) != down {
		t.Fatalf("%s: %q: found %d, %v, down %d; want %d, %v, %d", brief(n), key, at, found, n.Down(key), less, is, down)
	}
}

// wantOrder fails unless Find and Down count the keys that the chapter's words tell.
func wantOrder(t *testing.T, n node.Node, key string) {
	t.Helper()
	less, notGreater := 0, 0
	for _, k := range n.Keys {
		if k < key {
			less++
		}
		if !(k > key) {
			notGreater++
		}
	}
	wantPlaces(t, n, key, less, less < len(n.Keys) && n.Keys[less] == key, notGreater)
}

// P9.3

func TestFindExampleOfTheChapter(t *testing.T) {
	n := node.Node{Leaf: true, Keys: []string{"b", "d"}, Vals: []string{"", ""}}
	for _, x := range []struct {
		key  string
		less int
		is   bool
		down int
	}{{"a", 0, false, 0}, {"b", 0, true, 1}, {"c", 1, false, 1}, {"d", 1, true, 2}, {"e", 2, false, 2}} {
		wantPlaces(t, n, x.key, x.less, x.is, x.down)
		wantPlaces(t, node.Node{Keys: n.Keys, Kids: []int{1, 2, 3}}, x.key, x.less, x.is, x.down)
	}
}

func TestFindWithoutKeys(t *testing.T) {
	for _, n := range []node.Node{{}, {Leaf: true}, {Keys: []string{}}, {Kids: []int{1, 2}}, {Leaf: true, Vals: []string{"a", "b"}}} {
		for _, key := range []string{"", "\x00", "a", "\xff"} {
			wantPlaces(t, n, key, 0, false, 0)
		}
	}
}

// Keys of other widths have their place too: a key is greater than what it begins with.
func TestFindKeysOfOtherWidths(t *testing.T) {
	n := node.Node{Leaf: true, Keys: []string{"ab", "cd", "c\xff"}, Vals: []string{"", "", ""}}
	wantPlaces(t, n, "", 0, false, 0)
	wantPlaces(t, n, "a", 0, false, 0)
	wantPlaces(t, n, "ab\x00", 1, false, 1)
	wantPlaces(t, n, "c", 1, false, 1)
	wantPlaces(t, n, "cd", 1, true, 2)
	wantPlaces(t, n, "cd ", 2, false, 2)
	wantPlaces(t, n, "c\xff", 2, true, 3)
	wantPlaces(t, n, "c\xff\x00", 3, false, 3)
	wantPlaces(t, n, "d", 3, false, 3)
}

// Bytes of more than 127 are greater than those of less.
func TestFindHoldsBytesAgainstEachOther(t *testing.T) {
	n := node.Node{Keys: []string{"\x00", "\x7f", "\x80", "\xff"}, Kids: []int{1, 2, 3, 4, 5}}
	for key := range 256 {
		wantOrder(t, n, string([]byte{byte(key)}))
	}
	wantPlaces(t, n, "\x7f", 1, true, 2)
	wantPlaces(t, n, "\x80", 2, true, 3)
	wantPlaces(t, n, "é", 3, false, 3)
}

// A node that was not taken may have any keys; they are counted all the same.
func TestFindAmongKeysThatDoNotRise(t *testing.T) {
	wantPlaces(t, node.Node{Keys: []string{"d", "b"}}, "c", 1, false, 1)
	wantPlaces(t, node.Node{Keys: []string{"d", "b"}}, "d", 1, false, 2)
	wantPlaces(t, node.Node{Keys: []string{"b", "b", "b"}}, "b", 0, true, 3)
	wantPlaces(t, node.Node{Keys: []string{"c", "a", "b"}}, "b", 1, false, 2)
	wantPlaces(t, node.Node{Keys: []string{"", ""}}, "", 0, true, 2)
}

func TestFindChangesNothing(t *testing.T) {
	n := node.Node{Keys: []string{"d", "b", "c"}, Vals: []string{"x"}, Kids: []int{7}}
	was := copied(n)
	n.Find("c")
	n.Down("c")
	if !same(n, was) {
		t.Errorf("a node became %s", brief(n))
	}
}

// P9.4

// Each key of a node, and what stands just below and above it, has its place.
func TestFindAndDownOfSomeNodes(t *testing.T) {
	r := rand.New(rand.NewPCG(9, 1))
	for _, s := range someShapes() {
		for range 40 {
			n := someNode(r, s)
			for i, key := range n.Keys {
				wantPlaces(t, n, key, i, true, i+1)
				wantPlaces(t, n, key+"\x00", i+1, false, i+1)
				wantPlaces(t, n, key[:len(key)-1]+" ", placeOf(n.Keys, key[:len(key)-1]+" "), slices.Contains(n.Keys, key[:len(key)-1]+" "), downOf(n.Keys, key[:len(key)-1]+" "))
			}
			for range 20 {
				wantOrder(t, n, someText(r, r.IntN(66)))
				wantOrder(t, n, someText(r, s.KW))
			}
		}
	}
}

// placeOf is how many of rising keys are less: the place of the first one that is not.
func placeOf(keys []string, key string) int {
	at := slices.IndexFunc(keys, func(k string) bool { return k >= key })
	if at < 0 {
		return len(keys)
	}
	return at
}

// downOf is the place of the child in which a key is: that behind the last key that is not greater.
func downOf(keys []string, key string) int {
	at := slices.IndexFunc(keys, func(k string) bool { return k > key })
	if at < 0 {
		return len(keys)
	}
	return at
}

// Whatever keys a node has, they are counted.
func TestFindAndDownOfAnyKeys(t *testing.T) {
	r := rand.New(rand.NewPCG(9, 2))
	for range 3000 {
		n := node.Node{Leaf: r.IntN(2) == 0}
		for range r.IntN(12) {
			n.Keys = append(n.Keys, someText(r, r.IntN(4)))
		}
		for range 10 {
			wantOrder(t, n, someText(r, r.IntN(4)))
		}
	}
}
