package tests

import (
	"math"
	"math/rand"
	"slices"
	"testing"

	"loop.example/g00004/impl"
)

// What chapter 16 says of the age of a ticket, which goes round at 2^32.

func checkAge(t *testing.T, random []byte, seconds int64, want int64) {
	t.Helper()
	if got := impl.TicketAge(random, seconds); got != want {
		t.Errorf("the age of %x (%d bytes) and %d seconds: got %d, want %d", beginning(random), len(random), seconds, got, want)
	}
}

func checkFresh(t *testing.T, what string, random []byte, age int64, seconds int64, width int64, want bool) {
	t.Helper()
	if got := impl.FreshAge(random, age, seconds, width); got != want {
		t.Errorf("%s: random %x (%d bytes), age %d, %d seconds, width %d: got %v, want %v", what, beginning(random), len(random), age, seconds, width, got, want)
	}
}

// shiftedBy begins with a number, behind which there are no zeros.
func shiftedBy(shift int64) []byte {
	return slices.Concat(toldInBytes(shift, 4), full(14), upwards(14))
}

func ageShifts() []int64 {
	return []int64{0, 1, 255, 256, 65535, 65536, 1<<24 - 1, 1 << 24, 1<<31 - 1, 1 << 31, 1<<31 + 1, lastAge - 1, lastAge}
}

func ageSeconds() []int64 {
	return []int64{0, 1, 2, 255, 256, 604800, 1<<31 - 1, 1 << 31, 1<<31 + 1, lastAge - 1, lastAge}
}

func noAges() []int64 {
	return append(outsideOf(0, lastAge), -1, lastAge+1, math.MinInt64, math.MaxInt64)
}

func TestTicketAgeKnown(t *testing.T) {
	for _, row := range []struct{ shift, seconds, want int64 }{
		{0, 0, 0}, {0, 1, 1}, {0, lastAge, lastAge},
		{1, 0, 1}, {1, 1, 2}, {1, lastAge - 1, lastAge}, {1, lastAge, 0},
		{1 << 31, 0, 1 << 31}, {1 << 31, 1<<31 - 1, lastAge}, {1 << 31, 1 << 31, 0}, {1 << 31, lastAge, 1<<31 - 1},
		{lastAge, 0, lastAge}, {lastAge, 1, 0}, {lastAge, 2, 1}, {lastAge, lastAge, lastAge - 1},
		{0x01020304, 0, 0x01020304}, {0x01020304, 5, 0x01020309},
	} {
		checkAge(t, shiftedBy(row.shift), row.seconds, row.want)
	}
}

func TestTicketAgeTold(t *testing.T) {
	r := rand.New(rand.NewSource(362))
	for _, shift := range ageShifts() {
		for _, seconds := range append(ageSeconds(), noAges()...) {
			checkAge(t, shiftedBy(shift), seconds, toldAge(shiftedBy(shift), seconds))
		}
	}
	for range 2000 {
		random, seconds := randomList(r, 32), r.Int63n(lastAge+1)
		checkAge(t, random, seconds, toldAge(random, seconds))
	}
}

func TestTicketAgeSecondsOutside(t *testing.T) {
	for _, shift := range ageShifts() {
		for _, seconds := range noAges() {
			checkAge(t, shiftedBy(shift), seconds, -1)
		}
	}
}

func TestTicketAgeRandomOfOtherSizes(t *testing.T) {
	r := rand.New(rand.NewSource(363))
	for _, shift := range ageShifts() {
		whole := shiftedBy(shift)
		for _, n := range []int{0, 1, 3, 4, 5, 31} {
			checkAge(t, whole[:n], 0, -1)
			checkAge(t, whole[:n], 10, -1)
		}
		checkAge(t, append(whole, 0), 10, -1)
		checkAge(t, append(whole, whole...), 10, -1)
	}
	for _, random := range append(listsNotOf32(r), notOfSize(r, 32)...) {
		for _, seconds := range []int64{-1, 0, 1, lastAge, lastAge + 1, math.MinInt64, math.MaxInt64} {
			checkAge(t, random, seconds, -1)
		}
	}
}

// Only the first four bytes play a part.
func TestTicketAgeOfTheFirstBytes(t *testing.T) {
	r := rand.New(rand.NewSource(364))
	for range 100 {
		random, seconds := randomList(r, 32), r.Int63n(lastAge+1)
		want := impl.TicketAge(random, seconds)
		for bit := range 8 * 32 {
			got := impl.TicketAge(withBit(random, bit), seconds)
			if (got == want) != (bit >= 32) {
				t.Errorf("bit %d of %x: %d seconds are %d and %d", bit, random, seconds, want, got)
			}
		}
	}
}

// freshCase is one of which the age fits just.
type freshCase struct {
	shift   int64
	seconds int64
	width   int64
}

func freshCases() []freshCase {
	var all []freshCase
	for _, shift := range ageShifts() {
		for _, seconds := range []int64{0, 1, 5, 1000, lastWidth - 1, lastWidth, lastWidth + 1, 1 << 31, lastAge - lastWidth, lastAge - 5, lastAge - 1, lastAge} {
			for _, width := range []int64{0, 1, 5, lastWidth - 1, lastWidth} {
				all = append(all, freshCase{shift, seconds, width})
			}
		}
	}
	return all
}

// A width that is just met and one that is missed by one, either way. What a client says is taken round at 2^32, but the
// difference of the two is not.
func TestFreshAgeWidths(t *testing.T) {
	for _, c := range freshCases() {
		random := shiftedBy(c.shift)
		for _, row := range []struct {
			away int64
			want bool
		}{{0, true}, {c.width, true}, {-c.width, true}, {c.width + 1, false}, {-c.width - 1, false}} {
			passed := c.seconds + row.away
			if !toldBetween(passed, 0, lastAge) {
				continue
			}
			checkFresh(t, "a width", random, toldAge(random, passed), c.seconds, c.width, row.want)
			checkFresh(t, "a width, the other way", random, toldAge(random, c.seconds), passed, c.width, row.want)
		}
	}
}

func TestFreshAgeKnown(t *testing.T) {
	for _, row := range []struct {
		shift, age, seconds, width int64
		want                       bool
	}{
		{0, 0, 0, 0, true}, {0, 1, 0, 0, false}, {0, 0, 1, 0, false}, {0, 1, 0, 1, true}, {0, 0, 1, 1, true},
		{100, 110, 10, 0, true}, {100, 110, 13, 3, true}, {100, 110, 14, 3, false}, {100, 110, 7, 3, true}, {100, 110, 6, 3, false},
		{lastAge, 9, 10, 0, true}, {lastAge, 0, 1, 0, true}, {lastAge, lastAge, 0, 0, true}, {lastAge, lastAge - 1, lastAge, 0, true},
		{1, 0, lastAge, 0, true}, {1, 0, lastAge, lastWidth, true}, {1, 0, lastAge - lastWidth, lastWidth, true}, {1, 0, lastAge - lastWidth - 1, lastWidth, false},
		// The greatest age is not beside the least one.
		{1, 0, 0, lastWidth, false}, {1, 0, 1, 5, false}, {0, 0, lastAge, lastWidth, false}, {0, lastAge, 0, lastWidth, false}, {0, 1, lastAge, 2, false},
		{5, 4, 0, 1, false}, {5, 4, 1, 2, false}, {1 << 31, 1<<31 - 1, 0, lastWidth, false}, {1 << 31, 0, 1 << 31, 0, true},
	} {
		checkFresh(t, "known", shiftedBy(row.shift), row.age, row.seconds, row.width, row.want)
		if told := toldFresh(shiftedBy(row.shift), row.age, row.seconds, row.width); told != row.want {
			t.Errorf("told as %v", told)
		}
	}
}

// Each reason for false, alone: all else would make it true.
func TestFreshAgeRefusals(t *testing.T) {
	r := rand.New(rand.NewSource(365))
	for _, c := range freshCases() {
		random := shiftedBy(c.shift)
		age := toldAge(random, c.seconds)
		checkFresh(t, "nothing wrong", random, age, c.seconds, c.width, true)
		for _, other := range [][]byte{nil, random[:4], random[:31], append(random, 0), append(random, random...)} {
			checkFresh(t, "another length", other, age, c.seconds, c.width, false)
		}
		// Cut to 32 bits these would fit.
		for _, round := range []int64{1 << 32, -1 << 32, 1 << 40, math.MinInt64, 1 << 62} {
			checkFresh(t, "an age outside", random, age+round, c.seconds, c.width, false)
			checkFresh(t, "seconds outside", random, age, c.seconds+round, c.width, false)
		}
		for _, width := range outsideOf(0, lastWidth) {
			checkFresh(t, "a width outside", random, age, c.seconds, width, false)
		}
	}
	for _, random := range append(listsNotOf32(r), notOfSize(r, 32)...) {
		checkFresh(t, "another length", random, 0, 0, lastWidth, false)
	}
}

// Beside the ends of the limits: the numbers would be near enough.
func TestFreshAgeEndsOfLimits(t *testing.T) {
	for _, width := range []int64{0, 1, 2, lastWidth} {
		for _, row := range []struct {
			age, seconds int64
			inside       bool
		}{{-1, 0, false}, {0, -1, false}, {-1, -1, false}, {0, 0, true}, {lastAge, lastAge, true}, {lastAge + 1, lastAge, false}, {lastAge, lastAge + 1, false},
			{lastAge + 1, lastAge + 1, false}, {math.MinInt64, math.MinInt64, false}, {math.MaxInt64, math.MaxInt64, false}, {math.MinInt64, math.MaxInt64, false},
			{math.MaxInt64, math.MinInt64, false}, {math.MinInt64, 0, false}, {0, math.MinInt64, false}, {math.MaxInt64, 0, false}, {0, math.MaxInt64, false}} {
			checkFresh(t, "an end", make([]byte, 32), row.age, row.seconds, width, row.inside)
		}
	}
	for _, width := range []int64{-1, lastWidth + 1, math.MinInt64, math.MaxInt64} {
		checkFresh(t, "a width outside", make([]byte, 32), 7, 7, width, false)
	}
}

func TestFreshAgeTold(t *testing.T) {
	r := rand.New(rand.NewSource(366))
	seen := map[bool]int{}
	for range 20000 {
		random := shiftedBy(edgeOr(r, ageShifts(), lastAge))
		seconds, width := edgeOr(r, ageSeconds(), lastAge), edgeOr(r, []int64{0, 1, lastWidth}, lastWidth)
		age := (toldAge(random, seconds) + r.Int63n(3*width+5) - width - 2) & lastAge
		if r.Intn(20) == 0 {
			age = r.Int63()
		}
		want := toldFresh(random, age, seconds, width)
		seen[want]++
		checkFresh(t, "told", random, age, seconds, width, want)
	}
	if seen[true] < 4000 || seen[false] < 4000 {
		t.Errorf("%d were fresh and %d not", seen[true], seen[false])
	}
}

// What TicketAge says fits at once, and as long as the two ends count not more than a width apart.
func TestFreshAgeOfTicketAge(t *testing.T) {
	r := rand.New(rand.NewSource(367))
	for range 500 {
		random, width := randomList(r, 32), edgeOr(r, []int64{0, 1, 40}, 40)
		passed := edgeOr(r, []int64{0, 1, 50, lastAge - 50, lastAge - 1, lastAge}, lastAge)
		age := impl.TicketAge(random, passed)
		for seconds := max(0, passed-50); seconds <= min(lastAge, passed+50); seconds++ {
			near := passed-width <= seconds && seconds <= passed+width
			checkFresh(t, "said", random, age, seconds, width, near)
		}
	}
}
