package tests

import (
	"bytes"
	"math"
	"math/rand"
	"slices"
	"testing"

	"loop.example/g00004/impl"
)

// What chapter 16 says of the faults of a window.

func checkWindow(t *testing.T, what string, w impl.Window, want int64) {
	t.Helper()
	if got := impl.WindowFault(w); got != want || toldWindowFault(w) != want {
		t.Errorf("%s: %s: got %d, want %d, told %d", what, windowInShort(w), got, want, toldWindowFault(w))
	}
	// A window with a fault is not asked.
	if answer := impl.WindowAsk(w, full(32), 5); (answer.Code == 3) != (want != 0) {
		t.Errorf("%s: %s: asked, the code is %d", what, windowInShort(w), answer.Code)
	}
}

// windowChange is to a window with marks, and breaks one rule, or none where rule is 0.
type windowChange struct {
	rule   int64
	what   string
	change func(w *impl.Window)
}

func (one windowChange) of(w impl.Window) impl.Window {
	w = cloneWindow(w)
	one.change(&w)
	return w
}

func widthChanges() []windowChange {
	var all []windowChange
	for _, width := range outsideOf(0, lastWidth) {
		all = append(all, windowChange{1, "width", func(w *impl.Window) { w.Width = width }})
	}
	for _, width := range insideOfLimits(0, lastWidth) {
		all = append(all, windowChange{0, "width", func(w *impl.Window) { w.Width = width }})
	}
	return all
}

// fillTo puts marks behind those of a window, up to so many.
func fillTo(count int) func(w *impl.Window) {
	return func(w *impl.Window) {
		for i := len(w.Marks); i < count; i++ {
			id := numberedId(i)
			id[0] = 77
			w.Marks = append(w.Marks, impl.Mark{Id: id, Until: int64(i)})
		}
	}
}

func countChanges() []windowChange {
	var all []windowChange
	for _, count := range []int{65, 66, 128, 256, 257, 320, 1000} {
		all = append(all, windowChange{2, "count", fillTo(count)})
	}
	for _, count := range []int{1, 2, 63, 64} {
		all = append(all, windowChange{0, "count", fillTo(count)})
	}
	return all
}

// markPlaces are the first, a middle and the last place of so many.
func markPlaces(count int) []int {
	return []int{0, count / 2, count - 1}
}

func idChanges() []windowChange {
	var all []windowChange
	for _, part := range []int{0, 1, 2} {
		for _, n := range []int{0, 1, 31, 33, 64, 256, 256 + 32} {
			all = append(all, windowChange{3, "id", func(w *impl.Window) { w.Marks[markPlaces(len(w.Marks))[part]].Id = upwards(n) }})
		}
		for _, other := range []int{0, 1, 2} {
			if part != other {
				all = append(all, windowChange{3, "id", func(w *impl.Window) {
					places := markPlaces(len(w.Marks))
					w.Marks[places[part]].Id = bytes.Clone(w.Marks[places[other]].Id)
				}})
			}
		}
		for _, bit := range []int{0, 7, 8, 130, 248, 255} {
			// Of its neighbour's id one bit is another, so that the two are not the same.
			all = append(all, windowChange{0, "id", func(w *impl.Window) {
				place := markPlaces(len(w.Marks))[part]
				w.Marks[place].Id = withBit(w.Marks[(place+1)%len(w.Marks)].Id, bit)
			}})
		}
	}
	return all
}

func untilChanges() []windowChange {
	var all []windowChange
	for _, part := range []int{0, 1, 2} {
		for _, until := range outsideOf(0, lastMarkEnd) {
			all = append(all, windowChange{4, "until", func(w *impl.Window) { w.Marks[markPlaces(len(w.Marks))[part]].Until = until }})
		}
		for _, until := range append(insideOfLimits(0, lastMarkEnd), lastTime, lastTime+1) {
			all = append(all, windowChange{0, "until", func(w *impl.Window) { w.Marks[markPlaces(len(w.Marks))[part]].Until = until }})
		}
	}
	return all
}

func windowChanges() []windowChange {
	return slices.Concat(widthChanges(), countChanges(), idChanges(), untilChanges())
}

// brokenBy is one change for each rule.
func brokenBy(r *rand.Rand) []windowChange {
	var broken []windowChange
	for rule := int64(1); rule <= 4; rule++ {
		ofRule := slices.DeleteFunc(windowChanges(), func(one windowChange) bool { return one.rule != rule })
		broken = append(broken, ofRule[r.Intn(len(ofRule))])
	}
	return broken
}

func TestWindowFaultAlone(t *testing.T) {
	r := rand.New(rand.NewSource(368))
	for _, one := range windowChanges() {
		for _, count := range []int{3, 5, 40} {
			checkWindow(t, one.what, one.of(randomWindow(r, count, 1000)), one.rule)
		}
		// A full one has no place for more, but for those that are one too many.
		checkWindow(t, one.what+" of a full one", one.of(randomWindow(r, 64, 1000)), one.rule)
	}
}

func TestWindowFaultOfSeveral(t *testing.T) {
	r := rand.New(rand.NewSource(369))
	for range 200 {
		broken := brokenBy(r)
		for first := range broken {
			for rest := first; rest < len(broken); rest++ {
				w := broken[first].of(randomWindow(r, 3+r.Intn(62), 1000))
				for _, one := range broken[rest:] {
					w = one.of(w)
				}
				checkWindow(t, "several", w, broken[first].rule)
			}
		}
	}
}

// The faults of ids and ends by their rule, not by their place: a wrong end far ahead of a wrong id.
func TestWindowFaultByRuleNotByPlace(t *testing.T) {
	for _, until := range []int64{-1, lastMarkEnd + 1} {
		for _, count := range []int{2, 3, 64} {
			short, twice := windowOf(1, sameUntils(count, 9)...), windowOf(1, sameUntils(count, 9)...)
			short.Marks[0].Until, twice.Marks[0].Until = until, until
			checkWindow(t, "a wrong end alone", short, 4)
			short.Marks[count-1].Id = upwards(31)
			twice.Marks[count-1].Id = numberedId(count - 2)
			checkWindow(t, "a wrong end ahead of a short id", short, 3)
			checkWindow(t, "a wrong end ahead of two ids", twice, 3)
			short.Marks[0].Id, short.Marks[count-1].Id = nil, numberedId(count)
			checkWindow(t, "a wrong end beside a short id", short, 3)
		}
	}
}

func TestWindowFaultCounts(t *testing.T) {
	for count := range 70 {
		want := int64(0)
		if count > 64 {
			want = 2
		}
		checkWindow(t, "a count", windowOf(5, sameUntils(count, 100)...), want)
	}
	checkWindow(t, "many marks without an id", impl.Window{Marks: make([]impl.Mark, 65)}, 2)
	checkWindow(t, "marks without an id", impl.Window{Marks: make([]impl.Mark, 64)}, 3)
	checkWindow(t, "very many marks", impl.Window{Marks: make([]impl.Mark, 100000)}, 2)
	checkWindow(t, "very many marks and a wrong width", impl.Window{Width: -1, Marks: make([]impl.Mark, 100000)}, 1)
	checkWindow(t, "no marks", impl.Window{}, 0)
	checkWindow(t, "no marks", impl.Window{Marks: []impl.Mark{}}, 0)
}

func TestWindowFaultOfTwoIds(t *testing.T) {
	for _, count := range []int{2, 3, 64} {
		for first := range count {
			for second := range first {
				w := windowOf(0, sameUntils(count, 3)...)
				w.Marks[first].Id = numberedId(second)
				checkWindow(t, "two that are the same", w, 3)
				// Their ends may differ: it is the id that is taken once.
				w.Marks[first].Until = 4
				checkWindow(t, "two that are the same but for their ends", w, 3)
			}
		}
	}
}

// Two ids that differ in one byte alone are not the same, wherever it stands.
func TestWindowFaultIdsThatDiffer(t *testing.T) {
	r := rand.New(rand.NewSource(370))
	id := randomList(r, 32)
	for place := range 32 {
		other := bytes.Clone(id)
		other[place]++
		w := impl.Window{Marks: []impl.Mark{{Id: id}, {Id: other}}}
		checkWindow(t, "ids that differ", w, 0)
	}
	all := impl.Window{}
	for bit := range 63 {
		all.Marks = append(all.Marks, impl.Mark{Id: withBit(id, 4*bit)})
	}
	checkWindow(t, "ids that all differ", impl.Window{Marks: append(all.Marks, impl.Mark{Id: id})}, 0)
	checkWindow(t, "ids of which one comes again", impl.Window{Marks: append(all.Marks, impl.Mark{Id: withBit(id, 120)})}, 3)
}

// Two of 31 bytes that are the same up to there, or with a zero behind.
func TestWindowFaultOfShortIds(t *testing.T) {
	id := append(upwards(31), 0)
	for _, marks := range [][]impl.Mark{
		{{Id: id[:31]}}, {{Id: id}, {Id: id[:31]}}, {{Id: id[:31]}, {Id: id}}, {{Id: append(bytes.Clone(id), 0)}}, {{}}, {{Id: id}, {}}, {{}, {}},
	} {
		checkWindow(t, "a short id", impl.Window{Marks: marks}, 3)
		checkWindow(t, "a short id and a wrong width", impl.Window{Width: lastWidth + 1, Marks: marks}, 1)
	}
}

func TestWindowFaultEnds(t *testing.T) {
	for _, row := range []struct {
		width, until, want int64
	}{
		{0, 0, 0}, {lastWidth, 0, 0}, {0, lastMarkEnd, 0}, {lastWidth, lastMarkEnd, 0}, {-1, 0, 1}, {lastWidth + 1, 0, 1}, {0, -1, 4}, {0, lastMarkEnd + 1, 4},
		{lastWidth, lastMarkEnd + 1, 4}, {-1, -1, 1}, {math.MinInt64, 0, 1}, {math.MaxInt64, 0, 1}, {0, math.MinInt64, 4}, {0, math.MaxInt64, 4},
		{0, 253402473599, 0}, {0, 253402473600, 4},
	} {
		checkWindow(t, "ends", windowOf(row.width, row.until), row.want)
		checkWindow(t, "ends behind another", windowOf(row.width, 7, row.until), row.want)
	}
}
