package sheet_test

import (
	"math/rand/v2"
	"runtime"
	"slices"
	"strings"
	"testing"

	"armarium/api"
	"armarium/sheet"
)

// cut is the sheets of a text as the chapter's words tell them: full ones, as long as more than a full one is left, and a last one.
func cut(seq uint64, text string) []sheet.Sheet {
	var l []sheet.Sheet
	for i := uint64(0); ; i++ {
		if len(text) <= 497 {
			return append(l, sheet.Sheet{Seq: seq + i, Last: true, Text: text})
		}
		l = append(l, sheet.Sheet{Seq: seq + i, Text: text[:497]})
		text = text[497:]
	}
}

// isText says whether sheets are just those into which their texts, put together, are cut.
func isText(l []sheet.Sheet) bool {
	var text string
	for _, s := range l {
		text += s.Text
	}
	return len(l) > 0 && slices.Equal(l, cut(l[0].Seq, text))
}

// wantText fails unless the text is cut as it must be, and its sheets are put, taken, and joined to it again.
func wantText(t *testing.T, seq uint64, text string) {
	t.Helper()
	l := sheet.Cut(seq, text)
	if !slices.Equal(l, cut(seq, text)) {
		t.Fatalf("%d bytes, from %d on: cut %v", len(text), seq, l)
	}
	if n := sheet.Need(len(text)); n != len(l) {
		t.Fatalf("%d bytes: needs %d; cut into %d", len(text), n, len(l))
	}
	var taken []sheet.Sheet
	for _, s := range l {
		b, e := sheet.Put(s)
		if e != api.OK {
			t.Fatalf("%d bytes: put %v, error %d", len(text), s, e)
		}
		s, e = sheet.Take(b)
		if e != api.OK {
			t.Fatalf("%d bytes: took %v, error %d", len(text), s, e)
		}
		taken = append(taken, s)
	}
	for _, l := range [][]sheet.Sheet{l, taken} {
		if got, ok := sheet.Join(l); !ok || got != text {
			t.Fatalf("%d bytes, from %d on: joined %q, %v", len(text), seq, got, ok)
		}
	}
}

// wantNoText fails unless the sheets are those of no text.
func wantNoText(t *testing.T, what string, l []sheet.Sheet) {
	t.Helper()
	if s, ok := sheet.Join(l); ok || s != "" {
		t.Errorf("%s: joined %q, %v", what, s, ok)
	}
}

// P5.2

func TestNeed(t *testing.T) {
	const least, most = -1 << 63, 1<<63 - 1
	for _, c := range []struct{ bytes, want int }{
		{least, 1}, {least + 1, 1}, {-498, 1}, {-497, 1}, {-496, 1}, {-2, 1}, {-1, 1}, {0, 1}, {1, 1}, {2, 1},
		{496, 1}, {497, 1}, {498, 2}, {499, 2}, {512, 2}, {993, 2}, {994, 2}, {995, 3}, {1491, 3}, {1492, 4},
		{497 * 1000, 1000}, {497*1000 + 1, 1001}, {1<<31 - 1, 4320893}, {most - 1, 18558092629486471}, {most, 18558092629486471},
	} {
		if got := sheet.Need(c.bytes); got != c.want {
			t.Errorf("%d bytes need %d; want %d", c.bytes, got, c.want)
		}
	}
}

func TestCutExampleOfTheChapter(t *testing.T) {
	text := strings.Repeat("a", 497) + "b"
	want := []sheet.Sheet{{Seq: 7, Text: strings.Repeat("a", 497)}, {Seq: 8, Last: true, Text: "b"}}
	if l := sheet.Cut(7, text); !slices.Equal(l, want) {
		t.Errorf("cut %v", l)
	}
	wantText(t, 7, text)
}

func TestCutOfNothing(t *testing.T) {
	for _, seq := range []uint64{0, 7, most} {
		if l := sheet.Cut(seq, ""); !slices.Equal(l, []sheet.Sheet{{Seq: seq, Last: true}}) {
			t.Errorf("from %d on: cut %v", seq, l)
		}
		wantText(t, seq, "")
	}
}

func TestCutOfFullSheetsAlone(t *testing.T) {
	for n := 1; n < 5; n++ {
		l := sheet.Cut(1, strings.Repeat("f", 497*n))
		if len(l) != n || !l[n-1].Last || len(l[n-1].Text) != 497 {
			t.Errorf("%d full sheets: cut %v", n, l)
		}
		wantText(t, 1, strings.Repeat("f", 497*n))
	}
}

func TestNumbersGoRound(t *testing.T) {
	l := sheet.Cut(most, strings.Repeat("r", 497*2+1))
	if len(l) != 3 || l[0].Seq != most || l[1].Seq != 0 || l[2].Seq != 1 {
		t.Errorf("cut %v", l)
	}
	for back := range uint64(4) {
		wantText(t, most-back, strings.Repeat("r", 497*3+1))
	}
}

func TestCutAnswersNewMemory(t *testing.T) {
	text := strings.Repeat("new", 400)
	l := sheet.Cut(3, text)
	clear(l[:cap(l)])
	wantText(t, 3, text)
}

func TestJoinOfNoSheets(t *testing.T) {
	wantNoText(t, "nil", nil)
	wantNoText(t, "none", []sheet.Sheet{})
}

func TestJoinOfOneSheet(t *testing.T) {
	if s, ok := sheet.Join([]sheet.Sheet{{Last: true}}); s != "" || !ok {
		t.Errorf("an empty last one: %q, %v", s, ok)
	}
	if s, ok := sheet.Join([]sheet.Sheet{{Seq: 9, Last: true, Text: "hi"}}); s != "hi" || !ok {
		t.Errorf("a last one: %q, %v", s, ok)
	}
	full := strings.Repeat("f", 497)
	if s, ok := sheet.Join([]sheet.Sheet{{Seq: 9, Last: true, Text: full}}); s != full || !ok {
		t.Errorf("a full last one: %q, %v", s, ok)
	}
	wantNoText(t, "a zero one", []sheet.Sheet{{}})
	wantNoText(t, "not the last one", []sheet.Sheet{{Seq: 9, Text: "hi"}})
	wantNoText(t, "a full one, not the last", []sheet.Sheet{{Seq: 9, Text: full}})
	for _, n := range []int{498, 994, 1 << 20} {
		wantNoText(t, "too much text", []sheet.Sheet{{Seq: 9, Last: true, Text: strings.Repeat("f", n)}})
	}
}

// with is the sheets of a text of three full ones and a few bytes, in which something was changed.
func with(change func(l []sheet.Sheet) []sheet.Sheet) []sheet.Sheet {
	return change(cut(most-1, strings.Repeat("abcdefg", 220)))
}

func TestJoinOfSheetsThatDoNotGoTogether(t *testing.T) {
	type list = []sheet.Sheet
	for i := range 4 {
		wantNoText(t, "another number", with(func(l list) list { l[i].Seq++; return l }))
		wantNoText(t, "a number as great", with(func(l list) list { l[i].Seq ^= 1 << 63; return l }))
		wantNoText(t, "another mark", with(func(l list) list { l[i].Last = !l[i].Last; return l }))
		wantNoText(t, "twice", with(func(l list) list { return slices.Insert(l, i, l[i]) }))
		wantNoText(t, "a zero one between", with(func(l list) list { return slices.Insert(l, i, sheet.Sheet{}) }))
	}
	for i := range 3 {
		wantNoText(t, "a byte less", with(func(l list) list { l[i].Text = l[i].Text[1:]; return l }))
		wantNoText(t, "a byte more", with(func(l list) list { l[i].Text += "x"; return l }))
		wantNoText(t, "no bytes", with(func(l list) list { l[i].Text = ""; return l }))
		wantNoText(t, "another order", with(func(l list) list { l[i], l[i+1] = l[i+1], l[i]; return l }))
		wantNoText(t, "the first ones alone", with(func(l list) list { return l[:i+1] }))
		wantNoText(t, "two put together", with(func(l list) list {
			l[i].Text += l[i+1].Text
			return slices.Delete(l, i+1, i+2)
		}))
	}
	wantNoText(t, "one is lacking", with(func(l list) list { return slices.Delete(l, 1, 2) }))
	wantNoText(t, "two texts", with(func(l list) list { return append(l, cut(2, "hi")...) }))
	wantNoText(t, "one more behind the last", with(func(l list) list { return append(l, sheet.Sheet{Seq: 2, Last: true}) }))
	wantNoText(t, "more than full at the end", with(func(l list) list { l[3].Text = strings.Repeat("f", 498); return l }))
}

// As few sheets as hold it: behind full ones no empty one stands.
func TestJoinOfMoreSheetsThanItTakes(t *testing.T) {
	full := strings.Repeat("f", 497)
	wantNoText(t, "an empty one behind a full one", []sheet.Sheet{{Seq: 4, Text: full}, {Seq: 5, Last: true}})
	wantNoText(t, "an empty one behind an empty one", []sheet.Sheet{{Seq: 4}, {Seq: 5, Last: true}})
	wantNoText(t, "two halves", []sheet.Sheet{{Seq: 4, Text: "a"}, {Seq: 5, Last: true, Text: "b"}})
}

func TestJoinOfTheLastSheetsAlone(t *testing.T) {
	l := cut(most-1, strings.Repeat("abcdefg", 220))
	for i := range l {
		want := strings.Repeat("abcdefg", 220)[497*i:]
		if s, ok := sheet.Join(l[i:]); !ok || s != want {
			t.Errorf("from the sheet %d on: %q, %v", i, s, ok)
		}
	}
}

func TestJoinChangesNothing(t *testing.T) {
	l := cut(5, strings.Repeat("j", 1000))
	sheet.Join(l)
	if !slices.Equal(l, cut(5, strings.Repeat("j", 1000))) {
		t.Errorf("the list became %v", l)
	}
}

// A text that many sheets share is told of each of them, without all of it being put together.
func TestJoinOfSheetsThatShareAGreatText(t *testing.T) {
	l := slices.Repeat([]sheet.Sheet{{Text: strings.Repeat("g", 1<<20)}}, 64)
	var ahead, behind runtime.MemStats
	runtime.ReadMemStats(&ahead)
	wantNoText(t, "great texts", l)
	runtime.ReadMemStats(&behind)
	if took := behind.TotalAlloc - ahead.TotalAlloc; took > 1<<19 {
		t.Errorf("took %d bytes of memory", took)
	}
}

// Lists of a few sheets, of all kinds that are near to a text's.
func TestJoinOfSomeSheets(t *testing.T) {
	r := rand.New(rand.NewPCG(5, 4))
	lengths := []int{0, 1, 496, 497, 497, 497, 497, 498}
	texts := 0
	for range 200000 {
		seq := most - r.Uint64N(3)
		var l []sheet.Sheet
		n := r.IntN(4)
		for i := range n {
			s := sheet.Sheet{Seq: seq + uint64(i), Last: i == n-1, Text: strings.Repeat("s", lengths[r.IntN(len(lengths))])}
			if r.IntN(16) == 0 {
				s.Last = !s.Last
			}
			if r.IntN(16) == 0 {
				s.Seq = most - r.Uint64N(3)
			}
			l = append(l, s)
		}
		if !isText(l) {
			wantNoText(t, "some sheets", l)
			continue
		}
		texts++
		if s, ok := sheet.Join(l); !ok || !slices.Equal(l, cut(l[0].Seq, s)) {
			t.Fatalf("%v: joined %q, %v", l, s, ok)
		}
	}
	if texts < 1000 {
		t.Errorf("%d lists were texts'", texts)
	}
}

// P5.3

func TestTextsOfEachLength(t *testing.T) {
	r := rand.New(rand.NewPCG(5, 5))
	for n := range 2000 {
		wantText(t, r.Uint64()>>r.IntN(64), someText(r, n))
	}
}

func TestAGreatText(t *testing.T) {
	r := rand.New(rand.NewPCG(5, 6))
	wantText(t, most-100, someText(r, 512*512))
	wantText(t, 0, strings.Repeat("\x00", 1<<20))
}

// Sheets as texts: runes are cut where the bytes are full.
func TestTextsThatAreNoText(t *testing.T) {
	wantText(t, 1, strings.Repeat("ä€\xff\x00", 400))
}

func FuzzText(f *testing.F) {
	f.Add(uint64(7), "text", 1)
	f.Add(uint64(most), strings.Repeat("a", 100), 10)
	f.Fuzz(func(t *testing.T, seq uint64, text string, times int) {
		wantText(t, seq, strings.Repeat(text, 1+times&15))
	})
}
