package node_test

import (
	"testing"

	"armarium/node"
)

// P9.1

func TestMayOfAllWidths(t *testing.T) {
	for kw := -70; kw <= 140; kw++ {
		for vw := -70; vw <= 140; vw++ {
			s := node.Shape{KW: kw, VW: vw}
			if s.May() != mayTold(kw, vw) {
				t.Errorf("%v may be: %v", s, s.May())
			}
		}
	}
}

func TestCapAndFanOfAllShapes(t *testing.T) {
	for _, s := range allShapes() {
		if s.Cap() != capTold(s.KW, s.VW) || s.Fan() != fanTold(s.KW) {
			t.Errorf("%v: %d entries, %d children; want %d, %d", s, s.Cap(), s.Fan(), capTold(s.KW, s.VW), fanTold(s.KW))
		}
	}
}

func TestCapAndFanExamples(t *testing.T) {
	for _, x := range []struct{ kw, vw, entries, kids int }{
		{32, 4, 14, 15}, {33, 4, 13, 15}, {1, 0, 508, 169}, {1, 1, 254, 169}, {2, 5, 72, 127}, {4, 4, 63, 85}, {17, 33, 10, 27}, {64, 0, 7, 8}, {64, 64, 3, 8},
	} {
		s := node.Shape{KW: x.kw, VW: x.vw}
		if s.Cap() != x.entries || s.Fan() != x.kids {
			t.Errorf("%v: %d entries, %d children; want %d, %d", s, s.Cap(), s.Fan(), x.entries, x.kids)
		}
	}
}

func TestShapesThatMayNotBe(t *testing.T) {
	for _, s := range wrongShapes() {
		if s.May() || s.Cap() != 0 || s.Fan() != 0 {
			t.Errorf("%v may be: %v; %d entries, %d children", s, s.May(), s.Cap(), s.Fan())
		}
	}
}
