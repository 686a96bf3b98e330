package tests

import (
	"math/rand"
	"regexp"
	"strings"
	"testing"

	"loop.example/g00004/impl"
)

// What chapter 11 says of host names and patterns.

var plainLabel = regexp.MustCompile(`^[a-z0-9-]*$`)
var outerHyphen = regexp.MustCompile(`^-|-$`)

func toldLabelFault(label string) int64 {
	if len(label) == 0 {
		return 2
	}
	if len(label) > 63 {
		return 3
	}
	if !plainLabel.MatchString(label) {
		return 4
	}
	if outerHyphen.MatchString(label) {
		return 5
	}
	return 0
}

func toldNameFault(name string) int64 {
	if len(name) == 0 || len(name) > 128 {
		return 1
	}
	for _, label := range strings.Split(name, ".") {
		if fault := toldLabelFault(label); fault != 0 {
			return fault
		}
	}
	return 0
}

func toldPatternFault(pattern string) int64 {
	if len(pattern) < 2 || pattern[:2] != "*." {
		return toldNameFault(pattern)
	}
	if len(pattern) > 128 {
		return 1
	}
	if fault := toldNameFault(pattern[2:]); fault != 0 {
		return fault
	}
	if strings.Count(pattern, ".") == 1 {
		return 6
	}
	return 0
}

func checkName(t *testing.T, name string, want int64) {
	t.Helper()
	if got := impl.NameFault(name); got != want {
		t.Errorf("the name %q: got %d, want %d", name, got, want)
	}
}

func checkPattern(t *testing.T, pattern string, want int64) {
	t.Helper()
	if got := impl.PatternFault(pattern); got != want {
		t.Errorf("the pattern %q: got %d, want %d", pattern, got, want)
	}
}

// checkBoth holds a text to what chapter 11 says of it as a name and as a pattern.
func checkBoth(t *testing.T, text string) {
	t.Helper()
	checkName(t, text, toldNameFault(text))
	checkPattern(t, text, toldPatternFault(text))
}

// longName has so many bytes, in labels of which none is too long.
func longName(n int) string {
	var labels []string
	for n > 63 {
		labels = append(labels, strings.Repeat("a", 50))
		n -= 51
	}
	return strings.Join(append(labels, strings.Repeat("b", n)), ".")
}

// wrongLabels have the faults 2 to 5, each alone, one a row.
func wrongLabels() [][]string {
	return [][]string{
		{""},
		{strings.Repeat("a", 64), strings.Repeat("0", 65), strings.Repeat("z", 100)},
		{"A", "aZ", "a_b", "*", "a*", " ", "a b", "\x00", "\xff", "é", "a/b", "a:1", "{", "`", "a\n"},
		{"-", "-a", "a-", "--", "-a-", "-0", "9-", "-" + strings.Repeat("a", 62), strings.Repeat("a", 62) + "-"},
	}
}

func TestNameExamples(t *testing.T) {
	for _, name := range []string{"a", "z", "0", "9", "shop.example", "a.b.c.d.e.f", "0-9", "a--b", "x-1.y-2", "1.2.3.4", "localhost"} {
		checkName(t, name, 0)
	}
	for name, want := range map[string]int64{"": 1, ".": 2, "..": 2, "a.": 2, ".a": 2, "a..b": 2, "A.b": 4, "b.A": 4, "a.-": 5, "-.a": 5} {
		checkName(t, name, want)
	}
}

func TestNameSizes(t *testing.T) {
	for n := 1; n <= 128; n++ {
		checkName(t, longName(n), 0)
	}
	for _, n := range []int{0, 129, 130, 191, 192, 255, 256, 257, 384, 1000, 65536, 70000} {
		checkName(t, longName(n), 1)
		checkName(t, strings.Repeat("a", n), 1)
		checkName(t, strings.Repeat(".", n), 1)
		checkName(t, strings.Repeat("-", n), 1)
		checkName(t, strings.Repeat("A", n), 1)
	}
	checkName(t, strings.Repeat("a", 128), 3)
	checkName(t, strings.Repeat(".", 128), 2)
	checkName(t, strings.Repeat("a.", 64), 2)
	checkName(t, strings.Repeat("a.", 63)+"aa", 0)
}

// withLabel has a label at a place among others that are good.
func withLabel(label string, place int, count int) string {
	labels := strings.Split(strings.Repeat("ok.", count-1)+"ok", ".")
	labels[place] = label
	return strings.Join(labels, ".")
}

func TestNameLabelSizes(t *testing.T) {
	for count := 1; count <= 12; count++ {
		for place := range count {
			for n := 1; n <= 63; n++ {
				checkName(t, withLabel(strings.Repeat("x", n), place, count), 0)
			}
			for _, n := range []int{64, 65, 90} {
				checkName(t, withLabel(strings.Repeat("x", n), place, count), 3)
			}
			if count > 1 {
				checkName(t, withLabel("", place, count), 2)
			}
		}
	}
	checkName(t, strings.Repeat("a", 63)+"."+strings.Repeat("a", 63), 0)
	checkName(t, strings.Repeat("a", 63)+"."+strings.Repeat("a", 62)+".a", 0)
	checkName(t, strings.Repeat("a", 64)+"."+strings.Repeat("a", 63), 3)
	checkName(t, strings.Repeat("a", 63)+"."+strings.Repeat("a", 64), 3)
	checkName(t, strings.Repeat("a", 63)+"."+strings.Repeat("a", 63)+".", 2)
	checkName(t, strings.Repeat("a", 64)+"."+strings.Repeat("a", 64), 1)
}

// What is wrong with a byte at the beginning, in the middle or at the end of a label.
func byteFault(b byte, outer bool) int64 {
	if strings.IndexByte("abcdefghijklmnopqrstuvwxyz0123456789", b) >= 0 {
		return 0
	}
	if b == '-' && outer {
		return 5
	}
	if b == '-' {
		return 0
	}
	return 4
}

func TestNameEveryByte(t *testing.T) {
	for value := range 256 {
		b := byte(value)
		one := string([]byte{b})
		for count := 1; count <= 4; count++ {
			for place := range count {
				if b == '.' {
					continue
				}
				checkName(t, withLabel(one, place, count), byteFault(b, true))
				checkName(t, withLabel(one+"a", place, count), byteFault(b, true))
				checkName(t, withLabel("a"+one, place, count), byteFault(b, true))
				checkName(t, withLabel("a"+one+"a", place, count), byteFault(b, false))
				checkName(t, withLabel(strings.Repeat("a", 31)+one+strings.Repeat("a", 31), place, count), byteFault(b, false))
			}
		}
		for _, text := range []string{one, one + "a", "a" + one, "a" + one + "b", "a." + one, one + ".a", "*" + one + "a.b", one + ".a.b"} {
			checkBoth(t, text)
		}
	}
}

func TestNameFirstWrongLabelDecides(t *testing.T) {
	rows := wrongLabels()
	for i, firsts := range rows {
		for _, first := range firsts {
			for _, seconds := range rows {
				for _, second := range seconds {
					for _, middle := range []string{".", ".ok.", ".a.b.c."} {
						name := first + middle + second
						want := int64(i + 2)
						if len(name) > 128 {
							want = 1
						}
						checkName(t, name, want)
						if len(name) <= 125 {
							checkName(t, "ok."+name, want)
							checkName(t, name+".ok", want)
						}
					}
				}
			}
		}
	}
}

func TestNameLowerNumberDecides(t *testing.T) {
	long := strings.Repeat("a", 64)
	for place := range 4 {
		for _, label := range []string{long + "A", "A" + long, "-" + long, long + "-", "-" + long + "_", "*" + long} {
			checkName(t, withLabel(label, place, 4), 3)
		}
		for _, label := range []string{"-A", "A-", "-*", "*-", "-é-", "-" + strings.Repeat("a", 61) + "A"} {
			checkName(t, withLabel(label, place, 4), 4)
		}
	}
	// Too many bytes in all come ahead of what is wrong with a label.
	for _, rest := range []string{"", "A", "-", "."} {
		checkName(t, rest+longName(129), 1)
		checkName(t, longName(129)+rest, 1)
	}
}

// Each text of a few bytes out of those that matter.
func TestNameEveryShortText(t *testing.T) {
	for n := range 8 {
		for _, b := range allListsOf(n, 'a', '-', '.', '*', 'A') {
			checkBoth(t, string(b))
		}
	}
}

func TestNameAnyText(t *testing.T) {
	r := rand.New(rand.NewSource(190))
	pieces := []string{"a", "b", "0", "-", ".", ".", "A", "*.", "*", "label", strings.Repeat("c", 20), strings.Repeat("d", 62)}
	faults := map[int64]int{}
	for range 60000 {
		text := ""
		for range 1 + r.Intn(9) {
			// The strange pieces are seldom, or there would hardly be a good name.
			piece := pieces[r.Intn(len(pieces))]
			if strings.ContainsAny(piece, "-A*") && r.Intn(6) > 0 {
				piece = "x"
			}
			text += piece
		}
		if r.Intn(3) == 0 {
			text = "*." + text
		}
		checkBoth(t, text)
		faults[toldPatternFault(text)]++
	}
	for fault := range int64(7) {
		if faults[fault] < 100 {
			t.Errorf("only %d texts with the fault %d", faults[fault], fault)
		}
	}
}

func TestPatternStar(t *testing.T) {
	checkPattern(t, "*.", 1)
	checkPattern(t, "*", 4)
	checkPattern(t, "", 1)
	for _, name := range []string{"a", "example", "0", "a-b", longName(63)} {
		checkPattern(t, "*."+name, 6)
		checkPattern(t, "*."+name+".b", 0)
		checkPattern(t, "*.b."+name, 0)
		checkPattern(t, "*.b.c."+name, 0)
		checkPattern(t, name, 0)
	}
}

func TestPatternSizes(t *testing.T) {
	for n := 64; n <= 126; n++ {
		checkPattern(t, "*."+longName(n), 0)
		checkPattern(t, longName(n), 0)
	}
	for n := 1; n < 64; n++ {
		checkPattern(t, "*."+longName(n), 6)
	}
	for _, n := range []int{127, 128, 129, 256, 384, 70000} {
		checkPattern(t, "*."+longName(n), 1)
		checkPattern(t, "*."+strings.Repeat("A", n), 1)
		checkPattern(t, "*."+strings.Repeat(".", n), 1)
		checkPattern(t, "*."+strings.Repeat("-", n), 1)
	}
	checkPattern(t, longName(127), 0)
	checkPattern(t, longName(128), 0)
	checkPattern(t, longName(129), 1)
	checkPattern(t, "*."+strings.Repeat("a", 64), 3)
	checkPattern(t, "*."+strings.Repeat("a", 126), 3)
}

// Behind the star stands a name, with all that may be wrong with one.
func TestPatternFaultsBehindStar(t *testing.T) {
	for i, row := range wrongLabels() {
		for _, label := range row {
			want := int64(i + 2)
			for _, count := range []int{2, 3, 5} {
				for place := range count {
					checkPattern(t, "*."+withLabel(label, place, count), want)
					checkPattern(t, withLabel(label, place, count), toldPatternFault(withLabel(label, place, count)))
				}
			}
			if label != "" {
				checkPattern(t, "*."+label, want)
			}
		}
	}
}

func TestPatternStarElsewhere(t *testing.T) {
	for _, pattern := range []string{"**.a.b", "*a.b", "a*.b", "*a.b.c", "a*.b.c", "a.*.b", "a.*", "a.b.*", "*.*", "*.*.a", "*.*.a.b", "*.a.*", "*.a.*.b",
		"a.*b.c", "*.a*.b", " *.a.b", "a.b*", "**", "*-.a.b"} {
		checkPattern(t, pattern, 4)
		checkName(t, pattern, 4)
	}
	checkPattern(t, "*..a", 2)
	checkPattern(t, "*..", 2)
	checkPattern(t, ".*.a.b", 2)
	checkPattern(t, "-*.a.b", 4)
	for _, pattern := range []string{"*.a.b", "*.shop.example"} {
		checkName(t, pattern, 4)
		checkPattern(t, pattern, 0)
	}
}
