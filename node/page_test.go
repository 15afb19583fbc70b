package node_test

import (
	"fmt"
	"slices"
	"strings"
	"testing"

	"armarium/api"
	"armarium/node"
)

// P9.2

func TestPageOfALeafByteByByte(t *testing.T) {
	s := node.Shape{KW: 2, VW: 3}
	n := node.Node{Leaf: true, Keys: []string{"ab", "b\x00"}, Vals: []string{"xyz", "\xff\x00\x01"}}
	page := "\x01\x00\x00\x02abxyzb\x00\xff\x00\x01" + zeros(498)
	if b, e := s.Put(n); e != api.OK || string(b) != page {
		t.Errorf("the page % x, error %d", b, e)
	}
	wantTake(t, s, page, n)
}

func TestPageOfAnInnerNodeByteByByte(t *testing.T) {
	s := node.Shape{KW: 2, VW: 3}
	n := node.Node{Keys: []string{"ab", "b\x00"}, Kids: []int{258, 1023, 1}}
	page := "\x02\x00\x00\x02\x01\x02\x03\xff\x00\x01abb\x00" + zeros(498)
	if b, e := s.Put(n); e != api.OK || string(b) != page {
		t.Errorf("the page % x, error %d", b, e)
	}
	wantTake(t, s, page, n)
}

func TestLeafOfMoreThan255Keys(t *testing.T) {
	s := node.Shape{KW: 1}
	n := leafOf(s, 255)
	n.Keys, n.Vals = append([]string{"\x00"}, n.Keys...), append(n.Vals, "")
	page := wantPut(t, s, n)
	if page[:6] != "\x01\x00\x01\x00\x00\x01" || page[259:261] != "\xff\x00" {
		t.Errorf("the page % x", page)
	}
	wantTake(t, s, page, n)
}

func TestAnEmptyLeaf(t *testing.T) {
	for _, s := range allShapes() {
		page := "\x01" + zeros(511)
		for _, n := range []node.Node{{Leaf: true}, {Leaf: true, Keys: []string{}, Vals: []string{}, Kids: []int{}}} {
			if wantPut(t, s, n) != page {
				t.Fatalf("%v: another page", s)
			}
		}
		wantTake(t, s, page, node.Node{Leaf: true})
	}
}

// A value without bytes is one too: a leaf has as many as keys.
func TestValuesWithoutBytes(t *testing.T) {
	s := node.Shape{KW: 1}
	n := node.Node{Leaf: true, Keys: []string{"a", "b"}, Vals: []string{"", ""}}
	page := wantPut(t, s, n)
	wantTake(t, s, page, n)
	wantNoPage(t, "no values", s, node.Node{Leaf: true, Keys: n.Keys})
	wantNoPage(t, "a value too few", s, node.Node{Leaf: true, Keys: n.Keys, Vals: []string{""}})
	wantNoPage(t, "a value too many", s, node.Node{Leaf: true, Keys: n.Keys, Vals: []string{"", "", ""}})
}

// All numbers of entries, and of children, up to those that go in, and beyond.
func TestAllNumbersOfEntries(t *testing.T) {
	for _, s := range someShapes() {
		for entries := range most(s) + 1 {
			n := leafOf(s, entries)
			wantTake(t, s, wantPut(t, s, n), n)
		}
		for kids := 2; kids <= fanTold(s.KW); kids++ {
			n := innerOf(s, kids)
			wantTake(t, s, wantPut(t, s, n), n)
		}
	}
}

func TestFullNodesOfAllShapes(t *testing.T) {
	for _, s := range allShapes() {
		n := leafOf(s, most(s))
		wantTake(t, s, wantPut(t, s, n), n)
		n = innerOf(s, fanTold(s.KW))
		wantTake(t, s, wantPut(t, s, n), n)
		if s.KW > 1 {
			wantNoPage(t, "an entry too many", s, leafOf(s, capTold(s.KW, s.VW)+1))
		}
		wantNoPage(t, "a child too many", s, innerOf(s, fanTold(s.KW)+1))
		wantNoPage(t, "a child alone", s, innerOf(s, 1))
		wantNoPage(t, "no child", s, innerOf(s, 0))
	}
}

func TestNumbersOfEntriesThatAreNoNodes(t *testing.T) {
	s := node.Shape{KW: 3, VW: 1} // a full leaf has all of a page's bytes
	wantNoPage(t, "very many entries", s, leafOf(s, 70000))
	wantNoPage(t, "as many entries as 2 bytes tell as none", s, leafOf(s, 1<<16))
	wantNoPage(t, "very many children", s, innerOf(s, 70000))
	page := wantPut(t, s, leafOf(s, 127))
	if strings.Contains(page[4:], "\x00\x00\x00\x00") {
		t.Errorf("bytes are left: % x", page)
	}
}

// spoil answers a copy of a node with something else in it.
func spoil(n node.Node, how func(n *node.Node)) node.Node {
	c := copied(n)
	how(&c)
	return c
}

// wrongKeys are what may not become of the keys of a node that has three at least.
func wrongKeys() map[string]func(n *node.Node) {
	return map[string]func(n *node.Node){
		"no keys":                   func(n *node.Node) { n.Keys = nil },
		"a key too few":             func(n *node.Node) { n.Keys = n.Keys[1:] },
		"the last key too few":      func(n *node.Node) { n.Keys = n.Keys[:len(n.Keys)-1] },
		"a key too many":            func(n *node.Node) { n.Keys = append(n.Keys, strings.Repeat("\xff", len(n.Keys[0]))) },
		"an empty first key":        func(n *node.Node) { n.Keys[0] = "" },
		"an empty key":              func(n *node.Node) { n.Keys[1] = "" },
		"an empty last key":         func(n *node.Node) { n.Keys[len(n.Keys)-1] = "" },
		"only empty keys":           func(n *node.Node) { n.Keys = make([]string, len(n.Keys)) },
		"too short a first key":     func(n *node.Node) { n.Keys[0] = n.Keys[0][1:] },
		"too short a last key":      func(n *node.Node) { n.Keys[len(n.Keys)-1] = "\xff"[:min(1, len(n.Keys[0])-1)] },
		"too long a first key":      func(n *node.Node) { n.Keys[0] += "\x00" },
		"too long a key":            func(n *node.Node) { n.Keys[1] += "\x00" },
		"too long a last key":       func(n *node.Node) { n.Keys[len(n.Keys)-1] += "\x00" },
		"all keys longer":           func(n *node.Node) { lengthen(n.Keys) },
		"the first two keys equal":  func(n *node.Node) { n.Keys[0] = n.Keys[1] },
		"the last two keys equal":   func(n *node.Node) { n.Keys[len(n.Keys)-1] = n.Keys[len(n.Keys)-2] },
		"the first two keys fall":   func(n *node.Node) { n.Keys[0], n.Keys[1] = n.Keys[1], n.Keys[0] },
		"the last two keys fall":    func(n *node.Node) { swap(n.Keys, len(n.Keys)-1, len(n.Keys)-2) },
		"the first and last change": func(n *node.Node) { swap(n.Keys, 0, len(n.Keys)-1) },
		"all keys fall":             func(n *node.Node) { slices.Reverse(n.Keys) },
	}
}

func lengthen(l []string) {
	for i := range l {
		l[i] += "\x00"
	}
}

func swap(l []string, i, j int) { l[i], l[j] = l[j], l[i] }

// wrongVals are what may not become of the values of a leaf that has three entries at least.
func wrongVals() map[string]func(n *node.Node) {
	return map[string]func(n *node.Node){
		"no values":              func(n *node.Node) { n.Vals = nil },
		"a value too few":        func(n *node.Node) { n.Vals = n.Vals[1:] },
		"a value too many":       func(n *node.Node) { n.Vals = append(n.Vals, n.Vals[0]) },
		"too long a first value": func(n *node.Node) { n.Vals[0] += "\x00" },
		"too long a value":       func(n *node.Node) { n.Vals[1] += "\x00" },
		"too long a last value":  func(n *node.Node) { n.Vals[len(n.Vals)-1] += "\x00" },
		"a child":                func(n *node.Node) { n.Kids = []int{1} },
		"children": func(n *node.Node) {
			for i := range len(n.Keys) + 1 {
				n.Kids = append(n.Kids, i+1)
			}
		},
		"an inner node's kind": func(n *node.Node) { n.Leaf = false },
	}
}

func TestPutOfWrongKeys(t *testing.T) {
	for _, s := range someShapes() {
		for _, n := range []node.Node{leafOf(s, 3), innerOf(s, 4), innerOf(s, 5), innerOf(s, fanTold(s.KW))} {
			for what, how := range wrongKeys() {
				wantNoPage(t, what, s, spoil(n, how))
			}
		}
	}
}

func TestPutOfWrongValues(t *testing.T) {
	for _, s := range someShapes() {
		for what, how := range wrongVals() {
			wantNoPage(t, what, s, spoil(leafOf(s, 3), how))
		}
		for i := range 3 {
			if s.VW > 0 {
				wantNoPage(t, "too short a value", s, spoil(leafOf(s, 3), func(n *node.Node) { n.Vals[i] = n.Vals[i][1:] }))
				wantNoPage(t, "an empty value", s, spoil(leafOf(s, 3), func(n *node.Node) { n.Vals[i] = "" }))
			}
		}
	}
	// Keys and values together have as many bytes as they should, but not each.
	wantNoPage(t, "bytes of a key in its value", node.Shape{KW: 2, VW: 2}, node.Node{Leaf: true, Keys: []string{"a"}, Vals: []string{"bcd"}})
	wantNoPage(t, "bytes of a value in its key", node.Shape{KW: 2, VW: 2}, node.Node{Leaf: true, Keys: []string{"abc"}, Vals: []string{"d"}})
}

func TestPutOfWrongChildren(t *testing.T) {
	for _, s := range someShapes() {
		for _, n := range []node.Node{innerOf(s, 2), innerOf(s, 4), innerOf(s, fanTold(s.KW))} {
			for _, kid := range []int{lowest, lowest + 1, -1 << 32, -1024, -1, 0, 1024, 1025, 4096, 65535, 65536, 65537, 1 << 32, 1<<32 + 1, greatest} {
				for i := range n.Kids {
					wantNoPage(t, "a child that is no page", s, spoil(n, func(n *node.Node) { n.Kids[i] = kid }))
				}
			}
			wantNoPage(t, "a child too few", s, spoil(n, func(n *node.Node) { n.Kids = n.Kids[1:] }))
			wantNoPage(t, "a child too many", s, spoil(n, func(n *node.Node) { n.Kids = append(n.Kids, 7) }))
			wantNoPage(t, "no children", s, spoil(n, func(n *node.Node) { n.Kids = nil }))
			wantNoPage(t, "a value", s, spoil(n, func(n *node.Node) { n.Vals = []string{strings.Repeat("v", s.VW)} }))
			wantNoPage(t, "values", s, spoil(n, func(n *node.Node) { n.Vals = leafOf(s, len(n.Keys)).Vals }))
			wantNoPage(t, "a leaf's kind", s, spoil(n, func(n *node.Node) { n.Leaf = true }))
		}
	}
	wantNoPage(t, "a zero node", node.Shape{KW: 1}, node.Node{})
}

// The least and the greatest pages, and one page twice, may be children.
func TestChildrenAtTheEdges(t *testing.T) {
	s := node.Shape{KW: 1}
	for _, kids := range [][]int{{1, 1023}, {1023, 1}, {1, 1}, {255, 256}, {512, 257}} {
		n := node.Node{Kids: kids, Keys: []string{"k"}}
		wantTake(t, s, wantPut(t, s, n), n)
	}
}

// Of keys the least and the greatest ones may be.
func TestKeysAtTheEdges(t *testing.T) {
	for _, s := range someShapes() {
		n := node.Node{Leaf: true, Keys: []string{zeros(s.KW), strings.Repeat("\xff", s.KW)}, Vals: []string{zeros(s.VW), strings.Repeat("\xff", s.VW)}}
		wantTake(t, s, wantPut(t, s, n), n)
		n = node.Node{Keys: n.Keys, Kids: []int{3, 2, 1}}
		wantTake(t, s, wantPut(t, s, n), n)
	}
}

// A shape that may not be is asked ahead of what is handed in.
func TestPutAndTakeOfWrongShapes(t *testing.T) {
	good := pageTold(node.Node{Leaf: true, Keys: []string{"a"}, Vals: []string{"b"}})
	for _, s := range wrongShapes() {
		for _, n := range []node.Node{{}, {Leaf: true}, {Leaf: true, Keys: []string{"a"}, Vals: []string{"b"}}, {Leaf: true, Keys: []string{""}, Vals: []string{""}}, {Keys: []string{"a"}, Kids: []int{1, 2}}} {
			wantNoPage(t, "a wrong shape", s, n)
		}
		for _, page := range []string{"", "\x01", "\x01" + zeros(511), zeros(512), zeros(513), good} {
			wantNoNode(t, "a wrong shape", s, page, api.ErrArg)
		}
	}
}

func TestTakeOfAnotherNumberOfBytes(t *testing.T) {
	for _, s := range []node.Shape{{KW: 1}, {KW: 3, VW: 1}, {KW: 32, VW: 4}} {
		if m, e := s.Take(nil); e != api.ErrForm || !same(m, node.Node{}) {
			t.Errorf("%v: of nil: %s, error %d", s, brief(m), e)
		}
		for _, n := range []node.Node{{Leaf: true}, leafOf(s, 2), leafOf(s, most(s)), innerOf(s, 2), innerOf(s, fanTold(s.KW))} {
			page := wantPut(t, s, n)
			for _, length := range []int{0, 1, 2, 3, 4, 5, 64, 256, 508, 510, 511} {
				wantNoNode(t, fmt.Sprint(length, " bytes"), s, page[:length], api.ErrForm)
			}
			for _, more := range []int{1, 2, 4, 512, 1 << 16} {
				wantNoNode(t, fmt.Sprint(more, " bytes too many"), s, page+zeros(more), api.ErrForm)
				wantNoNode(t, fmt.Sprint(more, " bytes too many, ahead"), s, zeros(more)+page, api.ErrForm)
			}
		}
	}
}

// Of a page's head each byte may be only what the words say.
func TestTakeOfEachHead(t *testing.T) {
	for _, s := range []node.Shape{{KW: 1}, {KW: 2, VW: 5}, {KW: 3, VW: 1}, {KW: 64, VW: 64}} {
		for _, n := range []node.Node{{Leaf: true}, leafOf(s, 3), leafOf(s, most(s)), innerOf(s, 2), innerOf(s, 5), innerOf(s, fanTold(s.KW))} {
			page := wantPut(t, s, n)
			for x := range 256 {
				for at := range 4 {
					b := []byte(page)
					b[at] = byte(x)
					wantTold(t, fmt.Sprint("the byte ", at, " is ", x), s, string(b))
				}
			}
		}
		wantNoNode(t, "bytes 0", s, zeros(512), api.ErrForm)
		wantNoNode(t, "bytes 255", s, strings.Repeat("\xff", 512), api.ErrForm)
	}
}

// A page that is full has room for no key more, whatever its head says.
func TestTakeOfAllNumbersOfKeys(t *testing.T) {
	for _, s := range []node.Shape{{KW: 1}, {KW: 3, VW: 1}, {KW: 2}, {KW: 64, VW: 64}} {
		for _, kind := range []string{"\x01\x00", "\x02\x00"} {
			body := make([]byte, 508)
			for i := range body {
				body[i] = byte(1 + i%3)
			}
			for keys := range 1 << 16 {
				if keys > 600 && keys%251 != 0 && keys < 65000 {
					continue
				}
				wantTold(t, fmt.Sprint(keys, " keys"), s, kind+string([]byte{byte(keys >> 8), byte(keys)})+string(body))
				wantTold(t, fmt.Sprint(keys, " keys of bytes 0"), s, kind+string([]byte{byte(keys >> 8), byte(keys)})+zeros(508))
			}
		}
	}
}

// Behind what a node has, each byte is 0.
func TestTakeOfABytesBehindTheLast(t *testing.T) {
	for _, s := range someShapes() {
		for _, n := range []node.Node{{Leaf: true}, leafOf(s, 1), leafOf(s, most(s)), innerOf(s, 2), innerOf(s, fanTold(s.KW))} {
			page := wantPut(t, s, n)
			end := 4 + 2*len(n.Kids) + s.KW*len(n.Keys) + s.VW*len(n.Vals)
			for at := end; at < 512; at++ {
				for _, x := range []byte{1, 128, 255} {
					b := []byte(page)
					b[at] = x
					wantNoNode(t, fmt.Sprint("the byte ", at, " is ", x), s, string(b), api.ErrForm)
				}
			}
		}
	}
}

func TestTakeOfKeysThatDoNotRise(t *testing.T) {
	for _, s := range someShapes() {
		for _, n := range []node.Node{leafOf(s, 3), leafOf(s, min(most(s), 9)), innerOf(s, 4), innerOf(s, fanTold(s.KW))} {
			for i := range len(n.Keys) - 1 {
				c := spoil(n, func(n *node.Node) { n.Keys[i] = n.Keys[i+1] })
				wantNoNode(t, fmt.Sprint("the keys ", i, " and the next are equal"), s, pageTold(c), api.ErrForm)
				c = spoil(n, func(n *node.Node) { swap(n.Keys, i, i+1) })
				wantNoNode(t, fmt.Sprint("the keys ", i, " and the next fall"), s, pageTold(c), api.ErrForm)
			}
		}
	}
}

func TestTakeOfChildrenThatAreNoPages(t *testing.T) {
	for _, s := range someShapes() {
		for _, n := range []node.Node{innerOf(s, 2), innerOf(s, 5), innerOf(s, fanTold(s.KW))} {
			for i := range n.Kids {
				for _, kid := range []int{0, 1024, 1025, 2048, 32768, 65535} {
					c := spoil(n, func(n *node.Node) { n.Kids[i] = kid })
					wantNoNode(t, fmt.Sprint("the child ", i, " is ", kid), s, pageTold(c), api.ErrForm)
				}
				for _, kid := range []int{1, 255, 256, 1023} {
					c := spoil(n, func(n *node.Node) { n.Kids[i] = kid })
					wantTake(t, s, pageTold(c), c)
				}
			}
		}
	}
}

// An inner node of no keys, and one child, is none.
func TestTakeOfAnInnerNodeWithoutKeys(t *testing.T) {
	for _, s := range someShapes() {
		wantNoNode(t, "no keys, a child", s, "\x02\x00\x00\x00\x00\x05"+zeros(506), api.ErrForm)
		wantNoNode(t, "no keys, no child", s, "\x02"+zeros(511), api.ErrForm)
	}
}

func TestWhatIsPutIsNotChanged(t *testing.T) {
	for _, s := range someShapes() {
		for _, n := range []node.Node{leafOf(s, 3), innerOf(s, 4)} {
			was := copied(n)
			b, _ := s.Put(n)
			for i := range b {
				b[i] = 'X'
			}
			if !same(n, was) {
				t.Fatalf("%v: a node became %s", s, brief(n))
			}
			for what, how := range wrongKeys() {
				wrong := spoil(n, how)
				was := copied(wrong)
				if s.Put(wrong); !same(wrong, was) {
					t.Fatalf("%v: %s: a node became %s", s, what, brief(wrong))
				}
			}
		}
	}
}

// Neither does a node share anything with its page, nor with what is taken of it again.
func TestWhatIsTakenIsNewMemory(t *testing.T) {
	for _, s := range someShapes() {
		for _, n := range []node.Node{leafOf(s, 3), innerOf(s, 4)} {
			b := []byte(pageTold(n))
			m, _ := s.Take(b)
			if string(b) != pageTold(n) {
				t.Fatalf("%v: a page became % x", s, b)
			}
			clear(b)
			if !same(m, n) {
				t.Fatalf("%v: a node became %s", s, brief(m))
			}
			again, _ := s.Take([]byte(pageTold(n)))
			lengthen(m.Keys)
			if m.Leaf {
				m.Vals[0], m.Vals = "other", append(m.Vals[:1], "others")
			} else {
				m.Kids[0], m.Kids = 99, append(m.Kids[:1], 98)
			}
			if !same(again, n) {
				t.Fatalf("%v: a node became %s", s, brief(again))
			}
			wantTake(t, s, pageTold(n), n)
		}
	}
}

// What stands behind a list's end is not written to: lists of one answer share nothing.
func TestListsOfANodeShareNothing(t *testing.T) {
	s := node.Shape{KW: 4, VW: 4}
	m, _ := s.Take([]byte(pageTold(leafOf(s, 5))))
	_ = append(m.Keys, "more", "and more", "and more still")
	_ = append(m.Vals[:2], "other", "others")
	if !slices.Equal(m.Keys, leafOf(s, 5).Keys) {
		t.Errorf("the keys became %q", m.Keys)
	}
	m, _ = s.Take([]byte(pageTold(innerOf(s, 5))))
	_ = append(m.Keys[:1], "more", "and more")
	if !slices.Equal(m.Kids, innerOf(s, 5).Kids) {
		t.Errorf("the children became %v", m.Kids)
	}
}
