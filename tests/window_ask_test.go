package tests

import (
	"bytes"
	"math"
	"math/rand"
	"slices"
	"testing"

	"loop.example/g00004/impl"
)

// What chapter 16 says of asking a window, and promise 24.

func checkAsk(t *testing.T, what string, w impl.Window, id []byte, now int64, want impl.WindowAnswer) {
	t.Helper()
	got := impl.WindowAsk(w, id, now)
	if !sameWindowAnswer(got, want) {
		t.Errorf("%s: %s, asked for %x (%d bytes) at %d: got %d and %s, want %d and %s", what, windowInShort(w), beginning(id), len(id), now,
			got.Code, windowInShort(got.Window), want.Code, windowInShort(want.Window))
	}
	if told := toldAsk(w, id, now); !sameWindowAnswer(want, told) {
		t.Errorf("%s: %s, asked for %x at %d: want %d and %s, told %d and %s", what, windowInShort(w), beginning(id), now,
			want.Code, windowInShort(want.Window), told.Code, windowInShort(told.Window))
	}
}

// without is a window less the marks at some places.
func without(w impl.Window, places ...int) impl.Window {
	left := impl.Window{Width: w.Width}
	for i, mark := range w.Marks {
		if !slices.Contains(places, i) {
			left.Marks = append(left.Marks, mark)
		}
	}
	return left
}

// withMark is a window with one mark more.
func withMark(w impl.Window, id []byte, until int64) impl.Window {
	return impl.Window{Width: w.Width, Marks: append(slices.Clone(w.Marks), impl.Mark{Id: id, Until: until})}
}

func TestWindowAskOfAnEmptyOne(t *testing.T) {
	for _, width := range []int64{0, 1, 10, lastWidth - 1, lastWidth} {
		for _, now := range []int64{0, 1, 1700000000, lastTime - 1, lastTime} {
			for _, id := range [][]byte{make([]byte, 32), full(32), upwards(32)} {
				empty := impl.Window{Width: width}
				checkAsk(t, "an empty one", empty, id, now, impl.WindowAnswer{Window: withMark(empty, id, now+2*width)})
			}
		}
	}
}

// Code 3 of each cause alone, and of two together; the window is the zero one.
func TestWindowAskWrongly(t *testing.T) {
	r := rand.New(rand.NewSource(371))
	wrong := impl.WindowAnswer{Code: 3}
	for _, w := range []impl.Window{{Width: 7}, randomWindow(r, 5, 100), windowOf(3, sameUntils(64, 200)...), windowOf(lastWidth, sameUntils(64, 1)...)} {
		for _, id := range append(listsNotOf32(r), notOfSize(r, 32)...) {
			checkAsk(t, "an id of another length", w, id, 100, wrong)
			checkAsk(t, "an id of another length and a wrong time", w, id, -1, wrong)
		}
		for _, now := range outsideOf(0, lastTime) {
			checkAsk(t, "a time outside", w, full(32), now, wrong)
			checkAsk(t, "a time outside, and no id", w, nil, now, wrong)
		}
	}
	for _, one := range windowChanges() {
		if one.rule != 0 {
			w := one.of(randomWindow(r, 5, 100))
			checkAsk(t, "a faulty window: "+one.what, w, full(32), 100, wrong)
			checkAsk(t, "a faulty window and a wrong time", w, full(32), lastTime+1, wrong)
			checkAsk(t, "a faulty window and no id", w, nil, 100, wrong)
		}
	}
}

// A wrong mark is one even if it is too old, or stands behind the id that is asked for.
func TestWindowAskFaultyThoughOld(t *testing.T) {
	wrong := impl.WindowAnswer{Code: 3}
	w := windowOf(5, 300, 10, 300)
	w.Marks[1].Id = upwards(31)
	checkAsk(t, "an old mark with a short id", w, full(32), 100, wrong)
	w.Marks[1].Id = numberedId(0)
	checkAsk(t, "an old mark with an id that is there", w, full(32), 100, wrong)
	w.Marks[1] = impl.Mark{Id: numberedId(9), Until: -1}
	checkAsk(t, "an old mark with a wrong end", w, full(32), 100, wrong)
	checkAsk(t, "an id that is there, ahead of it", w, numberedId(0), 100, wrong)
	many := windowOf(5, sameUntils(65, 10)...)
	checkAsk(t, "too many marks that are old", many, full(32), 100, wrong)
}

// Ends below, at and above now, at the first, a middle and the last place.
func TestWindowAskForgets(t *testing.T) {
	const now = 1000
	for _, count := range []int{1, 2, 3, 10, 63, 64} {
		for _, place := range markPlaces(count) {
			for _, until := range []int64{0, now - 2, now - 1, now, now + 1, lastMarkEnd} {
				w := windowOf(4, sameUntils(count, now+50)...)
				w.Marks[place].Until = until
				left := w
				if until < now {
					left = without(w, place)
				}
				want := impl.WindowAnswer{Window: withMark(left, full(32), now+8)}
				if len(left.Marks) == mostMarks {
					want = impl.WindowAnswer{Code: 2, Window: left}
				}
				checkAsk(t, "a new id", w, full(32), now, want)
				for _, other := range markPlaces(count) {
					want := impl.WindowAnswer{Code: 1, Window: left}
					if other == place && until < now {
						want = impl.WindowAnswer{Window: withMark(left, numberedId(place), now+8)}
					}
					checkAsk(t, "an id that is there", w, numberedId(other), now, want)
				}
			}
		}
	}
}

// All that are too old go, wherever they stand; the others keep their order.
func TestWindowAskForgetsSeveral(t *testing.T) {
	r := rand.New(rand.NewSource(372))
	const now = 500
	for range 300 {
		w := impl.Window{Width: r.Int63n(20)}
		left := impl.Window{Width: w.Width}
		for range r.Intn(65) {
			mark := impl.Mark{Id: randomList(r, 32), Until: now - 2 + r.Int63n(4)}
			w.Marks = append(w.Marks, mark)
			if mark.Until >= now {
				left.Marks = append(left.Marks, mark)
			}
		}
		want := impl.WindowAnswer{Window: withMark(left, full(32), now+2*w.Width)}
		if len(left.Marks) == mostMarks {
			want = impl.WindowAnswer{Code: 2, Window: left}
		}
		checkAsk(t, "several", w, full(32), now, want)
		if len(left.Marks) > 0 {
			id := left.Marks[r.Intn(len(left.Marks))].Id
			checkAsk(t, "several, one of those that are left", w, id, now, impl.WindowAnswer{Code: 1, Window: left})
		}
	}
	all := windowOf(3, sameUntils(64, now-1)...)
	checkAsk(t, "all are too old", all, full(32), now, impl.WindowAnswer{Window: withMark(impl.Window{Width: 3}, full(32), now+6)})
	checkAsk(t, "all are too old, its own too", all, numberedId(0), now, impl.WindowAnswer{Window: withMark(impl.Window{Width: 3}, numberedId(0), now+6)})
}

// The marks are told as they stood, not by their ids or ends.
func TestWindowAskKeepsTheOrder(t *testing.T) {
	r := rand.New(rand.NewSource(373))
	for range 50 {
		w := impl.Window{Width: 9}
		for _, i := range r.Perm(63) {
			w.Marks = append(w.Marks, impl.Mark{Id: numberedId(i), Until: 100 + r.Int63n(1000)})
		}
		id := numberedId(1000)
		id[0] = byte(r.Intn(256))
		checkAsk(t, "the order", w, id, 100, impl.WindowAnswer{Window: withMark(w, id, 118)})
	}
}

// A full window of which nothing and of which something is too old, asked for ids that it has and has not.
func TestWindowAskOfAFullOne(t *testing.T) {
	const now = 200
	full64 := windowOf(1, sameUntils(64, now)...)
	checkAsk(t, "full", full64, full(32), now, impl.WindowAnswer{Code: 2, Window: full64})
	for place := range 64 {
		checkAsk(t, "full, and known", full64, numberedId(place), now, impl.WindowAnswer{Code: 1, Window: full64})
		one := cloneWindow(full64)
		one.Marks[place].Until = now - 1
		left := without(one, place)
		checkAsk(t, "room again", one, full(32), now, impl.WindowAnswer{Window: withMark(left, full(32), now+2)})
		checkAsk(t, "room again by its own mark", one, numberedId(place), now, impl.WindowAnswer{Window: withMark(left, numberedId(place), now+2)})
		checkAsk(t, "room again, and known", one, numberedId((place+1)%64), now, impl.WindowAnswer{Code: 1, Window: left})
	}
	nearly := windowOf(1, sameUntils(63, now)...)
	checkAsk(t, "one place left", nearly, full(32), now, impl.WindowAnswer{Window: withMark(nearly, full(32), now+2)})
}

func TestWindowAskIdsThatDiffer(t *testing.T) {
	r := rand.New(rand.NewSource(374))
	id := randomList(r, 32)
	w := withMark(impl.Window{Width: 2}, id, 50)
	checkAsk(t, "the id", w, bytes.Clone(id), 10, impl.WindowAnswer{Code: 1, Window: w})
	for bit := range 256 {
		checkAsk(t, "a bit", w, withBit(id, bit), 10, impl.WindowAnswer{Window: withMark(w, withBit(id, bit), 14)})
	}
}

// The last time: a mark of it is never too old, and its end is within the limits of the widest window.
func TestWindowAskAtTheLastTime(t *testing.T) {
	for _, width := range []int64{0, 1, lastWidth} {
		empty := impl.Window{Width: width}
		want := withMark(empty, upwards(32), lastTime+2*width)
		checkAsk(t, "the last time", empty, upwards(32), lastTime, impl.WindowAnswer{Window: want})
		checkAsk(t, "the last time again", want, upwards(32), lastTime, impl.WindowAnswer{Code: 1, Window: want})
		checkWindow(t, "behind the last time", want, 0)
		checkAsk(t, "one too late", want, full(32), lastTime+1, impl.WindowAnswer{Code: 3})
	}
	checkAsk(t, "the greatest number", impl.Window{Width: lastWidth}, full(32), math.MaxInt64, impl.WindowAnswer{Code: 3})
}

func TestWindowAskTold(t *testing.T) {
	r := rand.New(rand.NewSource(375))
	seen := map[int64]int{}
	for range 3000 {
		now := edgeOr(r, []int64{0, 1, 100, lastTime - 1, lastTime}, 1000)
		counts := []int{0, 1, 5, 63, 64}
		w := randomWindow(r, counts[r.Intn(len(counts))], now+3)
		if r.Intn(3) == 0 {
			w.Width = 0
		}
		id := randomList(r, 32)
		if len(w.Marks) > 0 && r.Intn(2) == 0 {
			id = w.Marks[r.Intn(len(w.Marks))].Id
		}
		want := toldAsk(w, id, now)
		seen[want.Code]++
		checkAsk(t, "told", w, id, now, want)
	}
	for code := range int64(3) {
		if seen[code] < 30 {
			t.Errorf("the code %d came %d times", code, seen[code])
		}
	}
}

// asker asks one window again and again, at times that don't go back, and knows of each id up to when it was taken.
type asker struct {
	window impl.Window
	now    int64
	until  map[string]int64
	seen   map[int64]int
}

func newAsker(w impl.Window, now int64) *asker {
	a := &asker{window: w, now: now, until: map[string]int64{}, seen: map[int64]int{}}
	for _, mark := range w.Marks {
		a.until[string(mark.Id)] = mark.Until
	}
	return a
}

// running counts the marks that are not at their end yet.
func (a *asker) running() int {
	count := 0
	for _, until := range a.until {
		if until >= a.now {
			count++
		}
	}
	return count
}

// want is the code that promise 24 leaves: an id up to its end, room or not.
func (a *asker) want(id []byte) int64 {
	until, taken := a.until[string(id)]
	switch {
	case taken && a.now <= until:
		return 1
	case a.running() == mostMarks:
		return 2
	}
	return 0
}

func (a *asker) ask(t *testing.T, id []byte) {
	t.Helper()
	want := a.want(id)
	got := impl.WindowAsk(a.window, id, a.now)
	if got.Code != want {
		t.Errorf("at %d, %s, asked for %x: got %d, want %d", a.now, windowInShort(a.window), id, got.Code, want)
	}
	if got.Code == 0 {
		a.until[string(id)] = a.now + 2*a.window.Width
	}
	if fault := impl.WindowFault(got.Window); fault != 0 || len(got.Window.Marks) > mostMarks || len(got.Window.Marks) != a.running() || got.Window.Width != a.window.Width {
		t.Errorf("at %d, the window has the fault %d and %d marks, not %d: %s", a.now, fault, len(got.Window.Marks), a.running(), windowInShort(got.Window))
	}
	for _, mark := range got.Window.Marks {
		if a.until[string(mark.Id)] != mark.Until {
			t.Errorf("at %d, the mark of %x ends at %d, not %d", a.now, mark.Id, mark.Until, a.until[string(mark.Id)])
		}
	}
	a.seen[got.Code]++
	a.window = got.Window
}

func TestPromise24ManyQuestions(t *testing.T) {
	r := rand.New(rand.NewSource(376))
	seen := map[int64]int{}
	for _, width := range []int64{0, 1, 2, 10, 100, lastWidth} {
		for _, ids := range []int{3, 30, 64, 65, 200} {
			for _, step := range []int64{1, 2, 5, width + 2} {
				a := newAsker(impl.Window{Width: width}, r.Int63n(1000))
				for range 250 {
					a.ask(t, numberedId(r.Intn(ids)))
					if r.Intn(3) == 0 {
						a.now += r.Int63n(step)
					}
				}
				for code, count := range a.seen {
					seen[code] += count
				}
			}
		}
	}
	for code := range int64(3) {
		if seen[code] < 100 {
			t.Errorf("the code %d came %d times", code, seen[code])
		}
	}
}

// Windows that begin with marks of any ends, and times up to the last one.
func TestPromise24FromAnyWindow(t *testing.T) {
	r := rand.New(rand.NewSource(377))
	for range 150 {
		start := edgeOr(r, []int64{0, 1000, lastTime - 100, lastTime - 10, lastTime}, lastTime)
		w := randomWindow(r, r.Intn(65), start+20)
		if fault := impl.WindowFault(w); fault != 0 {
			t.Fatalf("the window to begin with has the fault %d", fault)
		}
		var ids [][]byte
		for _, mark := range w.Marks {
			ids = append(ids, mark.Id)
		}
		for range 20 {
			ids = append(ids, randomList(r, 32))
		}
		a := newAsker(w, start)
		for range 100 {
			a.ask(t, ids[r.Intn(len(ids))])
			if r.Intn(4) == 0 {
				a.now = min(a.now+r.Int63n(4), lastTime)
			}
		}
	}
}

// One id at every second from ahead of its taking to behind its end.
func TestPromise24AtEachSecond(t *testing.T) {
	for _, width := range []int64{0, 1, 2, 7} {
		a := newAsker(impl.Window{Width: width}, 100)
		var taken []int64
		for ; a.now < 140; a.now++ {
			before := a.seen[0]
			a.ask(t, upwards(32))
			a.ask(t, upwards(32))
			if a.seen[0] > before {
				taken = append(taken, a.now)
			}
		}
		var want []int64
		for now := int64(100); now < 140; now += 2*width + 1 {
			want = append(want, now)
		}
		if !slices.Equal(taken, want) {
			t.Errorf("width %d: taken at %v, want %v", width, taken, want)
		}
	}
}

// A window that is full takes nothing up to and at the end of its first mark, and one behind it.
func TestPromise24OfAFullWindow(t *testing.T) {
	a := newAsker(impl.Window{Width: 50}, 0)
	for i := range 100 {
		a.ask(t, numberedId(i))
	}
	if a.seen[0] != 64 || a.seen[2] != 36 {
		t.Errorf("%v were taken", a.seen)
	}
	a.now = 100
	for i := range 100 {
		a.ask(t, numberedId(i))
	}
	if a.seen[0] != 64 || a.seen[1] != 64 {
		t.Errorf("at their end: %v", a.seen)
	}
	a.now = 101
	for i := range 100 {
		a.ask(t, numberedId(99-i))
	}
	if a.seen[0] != 128 {
		t.Errorf("behind their end: %v", a.seen)
	}
}

// What is said at the end of the chapter: an age that fits, within the width either way, is taken once.
func TestPromise24AsLongAsAnAgeFits(t *testing.T) {
	r := rand.New(rand.NewSource(378))
	for _, width := range []int64{0, 1, 5, 20} {
		random, id := randomList(r, 32), randomList(r, 32)
		age := impl.TicketAge(random, 60)
		for first := int64(60) - width; first <= 60+width; first++ {
			w := impl.Window{Width: width}
			taken := 0
			for seconds := int64(0); seconds <= 150; seconds++ {
				if seconds < first || !impl.FreshAge(random, age, seconds, width) {
					continue
				}
				answer := impl.WindowAsk(w, id, 1000+seconds)
				w = answer.Window
				if answer.Code == 0 {
					taken++
				}
			}
			if taken != 1 {
				t.Errorf("width %d, from %d on: taken %d times", width, first, taken)
			}
		}
	}
}
