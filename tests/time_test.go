package tests

import (
	"bytes"
	"cmp"
	"math"
	"math/rand"
	"slices"
	"strconv"
	"testing"
	"time"

	"loop.example/g00004/impl"
)

// What chapter 10 says of times, and promise 15 of them.

const dayOfSeconds = 86400

// toldDay is a day that goes on to the next one by the rule of the calendar.
type toldDay struct {
	year  int
	month int
	day   int
}

func toldLeap(year int) bool {
	if year%400 == 0 {
		return true
	}
	return year%4 == 0 && year%100 != 0
}

func toldMonthLength(year int, month int) int {
	switch month {
	case 4, 6, 9, 11:
		return 30
	case 2:
		if toldLeap(year) {
			return 29
		}
		return 28
	}
	return 31
}

func (d *toldDay) next() {
	d.day++
	if d.day > toldMonthLength(d.year, d.month) {
		d.day = 1
		d.month++
	}
	if d.month > 12 {
		d.month = 1
		d.year++
	}
}

func digitsOf(n int, count int) string {
	text := strconv.Itoa(n)
	for len(text) < count {
		text = "0" + text
	}
	return text
}

func timeText(year int, month int, day int, hour int, minute int, second int) string {
	return digitsOf(year, 4) + digitsOf(month, 2) + digitsOf(day, 2) + digitsOf(hour, 2) + digitsOf(minute, 2) + digitsOf(second, 2) + "Z"
}

func (d toldDay) text(hour int, minute int, second int) string {
	return timeText(d.year, d.month, d.day, hour, minute, second)
}

func libraryTime(t int64) string {
	return time.Unix(t, 0).UTC().Format("20060102150405") + "Z"
}

func partOf(text string, from int, to int) int {
	n := 0
	for _, digit := range []byte(text[from:to]) {
		n = 10*n + int(digit-'0')
	}
	return n
}

// toldTime lets the library count with whatever the parts are: a text is good if the time that comes out has it.
func toldTime(body []byte) impl.NumberResult {
	text := string(body)
	notDigit := func(b byte) bool { return b < '0' || b > '9' }
	if len(text) != 15 || text[14] != 'Z' || slices.ContainsFunc(body[:14], notDigit) {
		return impl.NumberResult{}
	}
	when := time.Date(partOf(text, 0, 4), time.Month(partOf(text, 4, 6)), partOf(text, 6, 8), partOf(text, 8, 10),
		partOf(text, 10, 12), partOf(text, 12, 14), 0, time.UTC)
	if when.Unix() < 0 || libraryTime(when.Unix()) != text {
		return impl.NumberResult{}
	}
	return impl.NumberResult{Good: true, Value: when.Unix()}
}

func checkTime(t *testing.T, when int64, want string) {
	t.Helper()
	got := impl.EncodeTime(when)
	if string(got) != want {
		t.Errorf("the time %d: got %q, want %q", when, got, want)
	}
	if back := impl.DecodeTime(got); back != (impl.NumberResult{Good: true, Value: when}) {
		t.Errorf("the time %d: %q comes back as %v", when, got, back)
	}
}

// checkTimeBody tells whether these bytes are a time; if they are, they are its only form.
func checkTimeBody(t *testing.T, body []byte) bool {
	t.Helper()
	got, want := impl.DecodeTime(body), toldTime(body)
	if got != want {
		t.Errorf("the text %q: got %v, want %v", body, got, want)
		return false
	}
	if got.Good {
		checkList(t, "encoded again", impl.EncodeTime(got.Value), body)
	}
	return got.Good
}

func checkGoodTime(t *testing.T, text string) {
	t.Helper()
	if !checkTimeBody(t, []byte(text)) {
		t.Errorf("the text %q is a time", text)
	}
}

func checkNoTime(t *testing.T, text string) {
	t.Helper()
	if got := impl.DecodeTime([]byte(text)); got != (impl.NumberResult{}) {
		t.Errorf("the text %q: got %v", text, got)
	}
}

// namedYears are the first and the last, leap years and others, and those at a whole number of centuries.
func namedYears() []int {
	return []int{1970, 1971, 1972, 1973, 1999, 2000, 2001, 2003, 2004, 2023, 2024, 2096, 2099, 2100, 2101, 2199, 2200, 2300, 2399, 2400, 2401,
		2800, 3000, 3600, 4000, 5000, 8000, 9600, 9900, 9996, 9998, 9999}
}

// timeEdges are the ends of minutes, hours, days, months and years, with what stands beside them.
func timeEdges() []int64 {
	edges := []int64{0, 1, impl.MaxTime, impl.MaxTime - 1}
	around := func(when time.Time) {
		for by := int64(-2); by <= 2; by++ {
			if n := when.Unix() + by; n >= 0 && n <= impl.MaxTime {
				edges = append(edges, n)
			}
		}
	}
	for _, year := range namedYears() {
		for month := range 13 {
			first := time.Date(year, time.Month(month+1), 1, 0, 0, 0, 0, time.UTC)
			for _, by := range []time.Duration{0, time.Minute, time.Hour, 12 * time.Hour, 24 * time.Hour} {
				around(first.Add(by))
				around(first.Add(-by))
			}
		}
	}
	slices.Sort(edges)
	return slices.Compact(edges)
}

func TestTimeExamples(t *testing.T) {
	for _, one := range []struct {
		when int64
		want string
	}{
		{0, "19700101000000Z"}, {1, "19700101000001Z"}, {59, "19700101000059Z"}, {60, "19700101000100Z"}, {3599, "19700101005959Z"},
		{3600, "19700101010000Z"}, {86399, "19700101235959Z"}, {86400, "19700102000000Z"}, {951782399, "20000228235959Z"},
		{951782400, "20000229000000Z"}, {951868799, "20000229235959Z"}, {951868800, "20000301000000Z"}, {1000000000, "20010909014640Z"},
		{2147483647, "20380119031407Z"}, {2147483648, "20380119031408Z"}, {4107542399, "21000228235959Z"}, {4107542400, "21000301000000Z"},
		{4294967296, "21060207062816Z"}, {13574563200, "24000229000000Z"}, {253402300799, "99991231235959Z"},
	} {
		checkTime(t, one.when, one.want)
	}
}

// Every day of the calendar, counted up one by one, with its first second and, at the end of a month, its last.
func TestPromise15EveryDay(t *testing.T) {
	day := toldDay{1970, 1, 1}
	ahead := ""
	for when := int64(0); when <= impl.MaxTime; when += dayOfSeconds {
		text := day.text(0, 0, 0)
		checkTime(t, when, text)
		if ahead >= text {
			t.Errorf("%q does not come behind %q", text, ahead)
		}
		ahead = text
		if day.day >= 28 {
			ahead = day.text(23, 59, 59)
			checkTime(t, when+dayOfSeconds-1, ahead)
		}
		day.next()
		if t.Failed() {
			return
		}
	}
	if day != (toldDay{10000, 1, 1}) {
		t.Errorf("behind the last day comes %v", day)
	}
}

func TestPromise15EverySecond(t *testing.T) {
	for _, start := range []int64{0, 951782400, 4107456000, impl.MaxTime + 1 - dayOfSeconds} {
		day := libraryTime(start)[:8]
		for second := range dayOfSeconds {
			want := day + digitsOf(second/3600, 2) + digitsOf(second%3600/60, 2) + digitsOf(second%60, 2) + "Z"
			checkTime(t, start+int64(second), want)
		}
	}
}

func TestPromise15Times(t *testing.T) {
	for _, when := range timeEdges() {
		checkTime(t, when, libraryTime(when))
	}
	r := rand.New(rand.NewSource(180))
	for range 100000 {
		when := r.Int63n(impl.MaxTime + 1)
		checkTime(t, when, libraryTime(when))
	}
}

func TestPromise15TimesAndTextsHaveOneOrder(t *testing.T) {
	edges := timeEdges()
	for i, when := range edges[1:] {
		if bytes.Compare(impl.EncodeTime(edges[i]), impl.EncodeTime(when)) >= 0 {
			t.Errorf("the text of %d does not come ahead of that of %d", edges[i], when)
		}
	}
	r := rand.New(rand.NewSource(181))
	for i := range 50000 {
		a := r.Int63n(impl.MaxTime + 1)
		b := r.Int63n(impl.MaxTime + 1)
		if i%2 == 0 {
			// Two times that lie close together.
			b = min(impl.MaxTime, a+r.Int63n(1<<r.Intn(30)))
		}
		if got := bytes.Compare(impl.EncodeTime(a), impl.EncodeTime(b)); got != cmp.Compare(a, b) {
			t.Errorf("the texts of %d and %d: got %d", a, b, got)
		}
	}
}

func TestEncodeTimeOutside(t *testing.T) {
	outside := []int64{-1, impl.MaxTime + 1, -2, -59, -60, -dayOfSeconds, impl.MaxTime + 2, impl.MaxTime + dayOfSeconds, -impl.MaxTime,
		math.MaxInt32 - 1<<40, 1 << 40, 1 << 62, math.MaxInt64, math.MinInt64, math.MinInt64 + 1}
	for _, when := range outside {
		checkList(t, "a time outside", impl.EncodeTime(when), nil)
	}
	checkTime(t, 0, "19700101000000Z")
	checkTime(t, impl.MaxTime, "99991231235959Z")
}

func TestDecodeTimeOfOtherLengths(t *testing.T) {
	for _, text := range []string{"19700101000000Z", "20000229000000Z", "99991231235959Z"} {
		checkGoodTime(t, text)
		for cut := range len(text) {
			checkNoTime(t, text[:cut])
			checkNoTime(t, text[cut+1:])
			checkNoTime(t, text[:cut]+text[cut+1:])
			for _, more := range []string{"0", "1", "Z", " ", "\x00"} {
				checkNoTime(t, text[:cut]+more+text[cut:])
			}
		}
		for _, more := range []string{"0", "Z", " ", "\x00", "\n", text, "+0000"} {
			checkNoTime(t, text+more)
			checkNoTime(t, more+text)
		}
		checkNoTime(t, text[2:])
		checkNoTime(t, "0"+text[:14])
		checkNoTime(t, text[:14]+".0Z")
	}
	checkNoTime(t, "")
	if impl.DecodeTime(nil) != (impl.NumberResult{}) {
		t.Error("no text is a time")
	}
}

// Every byte at every place of some texts.
func TestDecodeTimeOfOtherBytes(t *testing.T) {
	good := 0
	for _, text := range []string{"19700101000000Z", "19720229000000Z", "20001231235959Z", "20231114221320Z", "21000228120000Z", "99990930101010Z"} {
		for place := range len(text) {
			for b := range 256 {
				body := []byte(text)
				body[place] = byte(b)
				if checkTimeBody(t, body) {
					good++
				}
				if (place == 14 && b != 'Z' || place < 14 && (b < '0' || b > '9')) && impl.DecodeTime(body).Good {
					t.Errorf("the text %q is taken", body)
				}
			}
		}
	}
	if good < 200 {
		t.Errorf("only %d times", good)
	}
}

func TestDecodeTimeWithoutEnd(t *testing.T) {
	for _, end := range []string{"z", "0", "Y", "[", " ", "\x00", "\xff", ""} {
		checkNoTime(t, "20000101000000"+end)
	}
	checkNoTime(t, "Z20000101000000")
	checkNoTime(t, "200001010000Z00")
}

// Month 00 and 13, day 00, and the last day of each month and the one behind it.
func TestDecodeTimeMonthsAndDays(t *testing.T) {
	for _, year := range namedYears() {
		for _, month := range []int{0, 13, 14, 19, 20, 21, 40, 99} {
			checkNoTime(t, timeText(year, month, 1, 0, 0, 0))
			checkNoTime(t, timeText(year, month, 0, 0, 0, 0))
		}
		for month := 1; month <= 12; month++ {
			last := toldMonthLength(year, month)
			checkGoodTime(t, timeText(year, month, 1, 0, 0, 0))
			checkGoodTime(t, timeText(year, month, last, 23, 59, 59))
			for _, day := range []int{0, last + 1, last + 2, 32, 40, 99} {
				checkNoTime(t, timeText(year, month, day, 0, 0, 0))
			}
		}
	}
}

func TestDecodeTimeHoursMinutesAndSeconds(t *testing.T) {
	for n := range 100 {
		for _, one := range []struct {
			text string
			most int
		}{
			{timeText(2000, 2, 29, n, 0, 0), 23}, {timeText(1999, 12, 31, n, 59, 59), 23}, {timeText(2000, 2, 29, 0, n, 0), 59},
			{timeText(1999, 12, 31, 23, n, 59), 59}, {timeText(2000, 2, 29, 0, 0, n), 59}, {timeText(1999, 12, 31, 23, 59, n), 59},
		} {
			if n <= one.most {
				checkGoodTime(t, one.text)
			} else {
				checkNoTime(t, one.text)
			}
		}
	}
	// Another form of a time is none, not even at the end of a day or where a second was added to one.
	checkNoTime(t, "20000101240000Z")
	checkNoTime(t, "99991231240000Z")
	checkNoTime(t, "20161231235960Z")
}

func TestDecodeTimeEveryYear(t *testing.T) {
	for year := range 10000 {
		for _, text := range []string{timeText(year, 1, 1, 0, 0, 0), timeText(year, 12, 31, 23, 59, 59)} {
			if year < 1970 {
				checkNoTime(t, text)
			} else {
				checkGoodTime(t, text)
			}
		}
		if leapDay := timeText(year, 2, 29, 12, 0, 0); year >= 1970 && toldLeap(year) {
			checkGoodTime(t, leapDay)
		} else {
			checkNoTime(t, leapDay)
		}
	}
}

func TestDecodeTimeAnyDigits(t *testing.T) {
	r := rand.New(rand.NewSource(182))
	good := 0
	for range 50000 {
		text := timeText(1960+r.Intn(8040), r.Intn(15), r.Intn(34), r.Intn(26), r.Intn(62), r.Intn(62))
		if checkTimeBody(t, []byte(text)) {
			good++
		}
	}
	if good < 10000 || good > 45000 {
		t.Errorf("of 50000 texts %d are times", good)
	}
}

func ofDecodeTime(args [][]byte) [][]byte {
	got := impl.DecodeTime(args[0])
	if !got.Good {
		return nil
	}
	return [][]byte{impl.EncodeTime(got.Value), impl.EncodeTime(got.Value)}
}

func TestTimeMemory(t *testing.T) {
	r := rand.New(rand.NewSource(183))
	for range 300 {
		body := impl.EncodeTime(r.Int63n(impl.MaxTime + 1))
		checkMemory(t, "time", ofDecodeTime, body)
		checkMemory(t, "time cut", ofDecodeTime, body[:r.Intn(15)])
		body[r.Intn(15)] = byte(r.Intn(256))
		checkMemory(t, "time changed", ofDecodeTime, body)
	}
	checkMemory(t, "no time", ofDecodeTime, nil)
}
