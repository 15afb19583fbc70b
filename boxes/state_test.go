package boxes_test

import (
	"fmt"
	"math/rand/v2"
	"testing"

	"armarium/api"
	"armarium/boxes"
	"armarium/forest"
)

// P14.2

func TestKinds(t *testing.T) {
	if boxes.Free != 0 || boxes.Open != 1 || boxes.Sealed != 2 {
		t.Errorf("%d, %d, %d", boxes.Free, boxes.Open, boxes.Sealed)
	}
}

func TestStateOfEntries(t *testing.T) {
	s := newStore(t, 200)
	for _, i := range []int{0, 1, 127, 199} {
		for _, x := range []boxes.State{{Kind: 1}, {Kind: 2}, {Kind: 1, Used: 34, Live: 34}, {Kind: 2, Used: 34}, {Kind: 1, Used: 2048, Live: 2048}, {Kind: 2, Used: 2048, Live: 2047}, {Kind: 2, Used: 257, Live: 256}, {Kind: 1, Used: 1}} {
			putEntry(t, s, i, number(1, int(x.Kind))+number(2, x.Used)+number(2, x.Live))
			if got, e := s.State(i); got != x || e != api.OK {
				t.Fatalf("the box %d: %v, %v; want %v", i, got, e, x)
			}
		}
	}
}

func TestCountOfAnyStates(t *testing.T) {
	r := rand.New(rand.NewPCG(14, 1))
	for _, n := range []int{3, 4, 70, 200} {
		s, w := newStore(t, n), make(told, n)
		for range 10 {
			do(t, s, func() {
				for i := range w {
					if w[i].kind = uint8(r.IntN(3)); w[i].kind == 0 {
						s.Forest().Delete(forest.Boxes, number(2, i))
						continue
					}
					s.Forest().Put(forest.Boxes, number(2, i), number(1, int(w[i].kind))+zeros(4))
				}
			})
			for kind := range uint8(3) {
				if got, e := s.Count(kind); got != w.count(kind) || e != api.OK {
					t.Fatalf("%d of the kind %d, %v; want %d", got, kind, e, w.count(kind))
				}
			}
			for i := range w {
				if x, e := s.State(i); x != (boxes.State{Kind: w[i].kind}) || e != api.OK {
					t.Fatalf("the box %d: %v, %v", i, x, e)
				}
			}
			for _, kind := range []uint8{3, 4, 128, 255} {
				if got, e := s.Count(kind); got != 0 || e != api.OK {
					t.Fatalf("%d of the kind %d, %v", got, kind, e)
				}
			}
		}
	}
}

// noEntries are values that no box has.
func noEntries() []string {
	var l []string
	for _, kind := range []int{0, 3, 4, 128, 255} {
		l = append(l, number(1, kind)+number(2, 100)+number(2, 50), number(1, kind)+zeros(4))
	}
	for _, kind := range []int{1, 2} {
		for _, x := range [][2]int{{0, 1}, {34, 35}, {100, 2048}, {2049, 0}, {2049, 2049}, {2048, 2049}, {65535, 65535}, {65535, 0}, {0, 65535}, {256, 257}, {4096, 100}} {
			l = append(l, number(1, kind)+number(2, x[0])+number(2, x[1]))
		}
	}
	return l
}

// An entry that is none spoils what is asked of its box, and of all boxes, but of no other box.
func TestEntriesThatAreNone(t *testing.T) {
	for _, val := range noEntries() {
		for _, i := range []int{0, 2, 4} {
			s, w := sealedStore(t, 5, 2)
			putEntry(t, s, i, val)
			wantUntouched(t, "what is spoilt", diskOf(s), func() {
				wantAnswers(t, answers(s, i), api.ErrSpoilt)
				wantAnswers(t, answersOfAll(s), api.ErrSpoilt)
				e := s.Forest().Do(func() api.Errno {
					wantAnswers(t, answers(s, i), api.ErrSpoilt)
					wantAnswers(t, answersOfAll(s), api.ErrSpoilt)
					return api.OK
				})
				want(t, "Do", e, api.OK)
				for k := range w {
					if k != i {
						wantBox(t, s, k, w[k])
					}
				}
			})
		}
	}
}

// So does an entry of a box that there is not.
func TestEntriesOfNoBoxes(t *testing.T) {
	for _, i := range []int{5, 6, 200, 255, 256, 257, 65535} {
		s, w := sealedStore(t, 5, 2)
		putEntry(t, s, i, "\x01\x00\x22\x00\x22")
		wantUntouched(t, "what is spoilt", diskOf(s), func() {
			wantAnswers(t, answersOfAll(s), api.ErrSpoilt)
			do(t, s, func() { wantAnswers(t, answersOfAll(s), api.ErrSpoilt) })
			wantAnswers(t, answers(s, i), api.ErrArg)
			for k := range w {
				wantBox(t, s, k, w[k])
			}
		})
	}
}

func TestBoxesThatThereAreNot(t *testing.T) {
	for _, n := range []int{3, 5, 200} {
		s := newStore(t, n)
		for range 2 {
			for _, i := range noBoxes(n) {
				wantAnswers(t, answers(s, i), api.ErrArg)
				want(t, "Live", s.Live(i, lowest), api.ErrArg)
				if diskOf(s).Alive() {
					do(t, s, func() { wantAnswers(t, answers(s, i), api.ErrArg) })
				}
			}
			diskOf(s).Crash("")
		}
	}
}

// Once the power is gone, all is ErrDead, for ever, also of a store whose tree has no entry.
func TestWithoutPower(t *testing.T) {
	for _, sealed := range []int{-1, 0, 2} {
		s, w := newStore(t, 5), make(told, 5)
		if sealed >= 0 {
			s, w = sealedStore(t, 5, sealed)
		}
		for range 2 {
			diskOf(s).Crash("")
			for i := range 5 {
				wantAnswers(t, answers(s, i), api.ErrDead)
			}
			wantAnswers(t, answersOfAll(s), api.ErrDead)
			_, e := s.Append(api.Hash{}, text(2015), false)
			want(t, "Append of too much", e, api.ErrArg)
			diskOf(s).Start()
			for i := range 5 {
				wantAnswers(t, answers(s, i), api.ErrDead)
			}
			wantAnswers(t, answersOfAll(s), api.ErrDead)
			if s.Len() != 5 || s.Sector(1) != 2+96+64+5 || s.Forest() == nil {
				t.Error("what needs no power is told no more")
			}
		}
		wantStore(t, mounted(t, diskOf(s)), w)
	}
}

// What a tree's page says that is no node's, all that ask the tree say.
func TestATreeThatIsSpoilt(t *testing.T) {
	s, _ := sealedStore(t, 5, 2)
	d := diskOf(s)
	s = mounted(t, d)
	root := int(d.Raw(2 + 96 + 1)[15])
	want(t, "Write", d.Write(2+96+root, []byte(fmt.Sprintf("%512s", "no node's"))), api.OK)
	wantAnswers(t, answers(s, 1), api.ErrSpoilt)
	wantAnswers(t, answersOfAll(s), api.ErrSpoilt)
}
