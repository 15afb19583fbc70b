package forest_test

import (
	"fmt"
	"math/rand/v2"
	"runtime"
	"slices"
	"testing"

	"armarium/api"
	"armarium/forest"
)

// P11.2

func TestTheChaptersExamples(t *testing.T) {
	f := newForest(t, 96, 64)
	k := keyOf(forest.Counts, 5)
	get := func() {
		t.Helper()
		if v, is, e := f.Get(forest.Counts, k); v != "vvvv" || !is || e != api.OK {
			t.Fatalf("%q, %v, %v", v, is, e)
		}
	}
	e := f.Do(func() api.Errno { f.Put(forest.Counts, k, "vvvv"); return api.OK })
	want(t, "Do", e, api.OK)
	get()
	e = f.Do(func() api.Errno { f.Put(forest.Counts, k, "wwww"); return api.ErrFull })
	want(t, "Do", e, api.ErrFull)
	get()
}

// A change is called once, and its answer is answered; if it is an error, all is gone.
func TestWhatAChangeAnswers(t *testing.T) {
	f, w := grown(t, 512, 256, 30)
	d := f.Store().Disk()
	answers := []api.Errno{-1, 14, 99, api.Errno(lowest), api.Errno(greatest)}
	for e := api.ErrNil; e <= api.ErrHeld; e++ {
		answers = append(answers, e)
	}
	for _, answer := range answers {
		called := 0
		wantUntouched(t, "a change that is gone", d, func() {
			e := f.Do(func() api.Errno {
				called++
				gone := w.copy()
				for i := range 8 {
					for k := range 40 {
						putBoth(t, f, gone, i, keyOf(i, 2*k+1), valOf(i, 5))
					}
					for k := range 20 {
						dropBoth(t, f, gone, i, keyOf(i, 2*k))
					}
				}
				wantNow(t, f, gone)
				return answer
			})
			want(t, "Do", e, answer)
		})
		if called != 1 {
			t.Fatalf("called %d times", called)
		}
		wantForest(t, f, w)
	}
	doBoth(t, f, w, func(w told) { changeSome(t, f, w) })
	wantForest(t, f, w)
	wantOpened(t, d, w)
}

// changeSome changes something of each tree.
func changeSome(t *testing.T, f *forest.Forest, w told) {
	t.Helper()
	for i := range 8 {
		putBoth(t, f, w, i, keyOf(i, 1), valOf(i, 9))
		dropBoth(t, f, w, i, keyOf(i, 4))
	}
}

// All of a change is one text of the log, with the roots.
func TestAChangeIsCommittedAtOnce(t *testing.T) {
	f, w := newForest(t, 512, 256), newTold()
	d := f.Store().Disk()
	for round := range 3 {
		texts := textsOf(t, d)
		doBoth(t, f, w, func(w told) {
			for i := range 8 {
				for k := range 20 {
					putBoth(t, f, w, i, keyOf(i, 20*round+k), valOf(i, k))
				}
			}
			if now := textsOf(t, d); !slices.Equal(now, texts) {
				t.Fatal("something is committed within the change")
			}
		})
		if now := textsOf(t, d); len(now) != len(texts)+1 {
			t.Fatalf("the log has %d texts; %d were there", len(now), len(texts))
		}
		wantForest(t, f, w)
		wantOpened(t, d, w)
	}
}

// Where nothing is changed, nothing is done.
func TestAChangeOfNothing(t *testing.T) {
	f, w := grown(t, 512, 256, 30)
	wantUntouched(t, "a change of nothing", f.Store().Disk(), func() {
		doBoth(t, f, w, func(told) {})
		doBoth(t, f, w, func(w told) {
			for i := range 8 {
				dropBoth(t, f, w, i, keyOf(i, 1))
				wantGet(t, f, w, i, keyOf(i, 2))
			}
			wantNow(t, f, w)
		})
	})
	wantForest(t, f, w)
}

// wantFails fails unless a change that answers OK is gone, with that error.
func wantFails(t *testing.T, f *forest.Forest, w told, e api.Errno, change func(w told)) {
	t.Helper()
	wantUntouched(t, "a change that is gone", f.Store().Disk(), func() {
		got := f.Do(func() api.Errno {
			now := w.copy()
			changeSome(t, f, now)
			change(now)
			return api.OK
		})
		want(t, "Do", got, e)
	})
	wantForest(t, f, w)
}

// Whatever error a tree met, and whichever call met it, the change is gone, also if it answers OK.
func TestATreeMeetsAnError(t *testing.T) {
	f, w := grown(t, 512, 256, 30)
	for i := range 8 {
		wide, val := text(widths()[i][0]+1, 1), valOf(i, 1)
		calls := []func() api.Errno{
			func() api.Errno { return f.Put(i, wide, val) },
			func() api.Errno { return f.Put(i, "", val) },
			func() api.Errno { return f.Put(i, keyOf(i, 1), val+"+") },
			func() api.Errno { _, e := f.Delete(i, wide); return e },
			func() api.Errno { _, _, e := f.Get(i, wide); return e },
		}
		for _, call := range calls {
			wantFails(t, f, w, api.ErrArg, func(w told) {
				want(t, "a call of a key, or a value, of another width", call(), api.ErrArg)
				putBoth(t, f, w, i, keyOf(i, 3), val) // what goes well behind it does not mend it
			})
		}
	}
}

// fill puts keys of a tree till an error is met, and answers it.
func fill(f *forest.Forest, i int) api.Errno {
	for k := range 1 << 16 {
		if e := f.Put(i, keyOf(i, k), valOf(i, k)); e != api.OK {
			return e
		}
	}
	return api.OK
}

// The first error that a tree met is answered, but what the change answers is, if that is one.
func TestTheFirstError(t *testing.T) {
	f, w := grown(t, 512, 64, 10)
	wantFails(t, f, w, api.ErrFull, func(told) {
		want(t, "Put", fill(f, forest.Queue), api.ErrFull)
		want(t, "Put", f.Put(forest.Boxes, "", ""), api.ErrArg)
		want(t, "Put", f.Put(forest.Moved, keyOf(2, 2), valOf(2, 2)), api.OK)
	})
	wantFails(t, f, w, api.ErrArg, func(told) {
		want(t, "Put", f.Put(forest.Boxes, "", ""), api.ErrArg)
		want(t, "Put", fill(f, forest.Queue), api.ErrFull)
	})
	e := f.Do(func() api.Errno {
		want(t, "Put", fill(f, forest.Queue), api.ErrFull)
		return api.ErrName
	})
	want(t, "Do", e, api.ErrName)
	wantForest(t, f, w)
	doBoth(t, f, w, func(w told) { changeSome(t, f, w) }) // the error does not stay
	wantForest(t, f, w)
	wantOpened(t, f.Store().Disk(), w)
}

// An error that was met outside of a change is no change's.
func TestErrorsOutsideOfAChange(t *testing.T) {
	f, w := grown(t, 512, 128, 10)
	_, _, e := f.Get(forest.Counts, "")
	want(t, "Get", e, api.ErrArg)
	doBoth(t, f, w, func(w told) { changeSome(t, f, w) })
	_, _, e = f.Get(forest.Counts, "")
	want(t, "Get", e, api.ErrArg)
	doBoth(t, f, w, func(w told) { changeSome(t, f, w) })
	wantForest(t, f, w)
}

// What is refused ahead of any tree is no tree's error.
func TestWhatIsNoTreesError(t *testing.T) {
	f, w := grown(t, 512, 128, 10)
	doBoth(t, f, w, func(w told) {
		changeSome(t, f, w)
		for _, i := range noTrees() {
			want(t, "Put", f.Put(i, "k", "v"), api.ErrArg)
		}
		want(t, "Each", f.Each(0, nil), api.ErrNil)
		want(t, "Do", f.Do(nil), api.ErrNil)
	})
	wantForest(t, f, w)
	wantOpened(t, f.Store().Disk(), w)
}

// A change that the log never has room for is gone.
func TestAChangeThatIsTooGreat(t *testing.T) {
	f, w := newForest(t, 96, 512), newTold()
	doBoth(t, f, w, func(w told) {
		for i := range 8 {
			for k := range 8 {
				putBoth(t, f, w, i, keyOf(i, 2*k), valOf(i, k))
			}
		}
	})
	for range 2 {
		wantFails(t, f, w, api.ErrLimit, func(w told) {
			for k := range 2000 {
				putBoth(t, f, w, forest.Places, keyOf(forest.Places, k), valOf(forest.Places, k))
			}
		})
	}
	doBoth(t, f, w, func(w told) { changeSome(t, f, w) })
	wantForest(t, f, w)
	wantOpened(t, f.Store().Disk(), w)
}

// Within a change no other one is done, and it goes on.
func TestAChangeWithinAChange(t *testing.T) {
	f, w := grown(t, 512, 128, 10)
	inner := func() api.Errno { t.Fatal("it is called"); return api.OK }
	doBoth(t, f, w, func(w told) {
		want(t, "Do within a change", f.Do(inner), api.ErrArg)
		changeSome(t, f, w)
		want(t, "Do within a change", f.Do(inner), api.ErrArg)
		putBoth(t, f, w, forest.Snaps, keyOf(3, 99), valOf(3, 99))
	})
	wantForest(t, f, w)
	wantOpened(t, f.Store().Disk(), w)
	e := f.Do(func() api.Errno {
		changeSome(t, f, w.copy())
		return f.Do(inner)
	})
	want(t, "Do", e, api.ErrArg)
	wantForest(t, f, w)
}

func TestNothingToDo(t *testing.T) {
	var none *forest.Forest
	want(t, "Do", none.Do(func() api.Errno { t.Error("it is called"); return api.OK }), api.ErrNil)
	want(t, "Do", none.Do(nil), api.ErrNil)
	f := newForest(t, 96, 64)
	wantUntouched(t, "Do", f.Store().Disk(), func() { want(t, "Do", f.Do(nil), api.ErrNil) })
	f.Store().Disk().Crash("")
	want(t, "Do", f.Do(nil), api.ErrNil)
}

// A change that never answers leaves the trees as they were.
func TestAChangeThatNeverAnswers(t *testing.T) {
	f, w := grown(t, 512, 128, 10)
	ways := map[string]func(){"a panic": func() { panic("a change") }, "an end": runtime.Goexit}
	for what, way := range ways {
		done := make(chan any)
		go func() {
			defer func() { done <- recover() }()
			f.Do(func() api.Errno {
				changeSome(t, f, w.copy())
				way()
				return api.OK
			})
		}()
		if thrown := <-done; what == "a panic" && thrown != "a change" {
			t.Errorf("%s: %v", what, thrown)
		}
		wantForest(t, f, w)
		want(t, "Put", f.Put(0, keyOf(0, 1), valOf(0, 1)), api.ErrArg)
		doBoth(t, f, w, func(w told) { changeSome(t, f, w) })
		wantForest(t, f, w)
	}
}

// Random changes, done and not, lead from one forest to the next.
func TestRandomChanges(t *testing.T) {
	for seed := range uint64(6) {
		x := &run{rand.New(rand.NewPCG(11, seed)), newForest(t, 512, 200), newTold()}
		for round := range 80 {
			now := x.w.copy()
			answer := []api.Errno{api.OK, api.OK, api.ErrFull}[x.r.IntN(3)]
			e := x.f.Do(func() api.Errno {
				for range x.r.IntN(60) {
					x.step(t, now)
				}
				if round%8 == 0 {
					wantNow(t, x.f, now)
				}
				return answer
			})
			if want(t, fmt.Sprint("Do of the round ", round), e, answer); e == api.OK {
				x.w = now
			}
			wantForest(t, x.f, x.w)
			if round%8 == 0 {
				wantOpened(t, x.f.Store().Disk(), x.w)
			}
		}
	}
}
