package tests

import (
	"math/rand"
	"slices"
	"strings"
	"testing"

	"loop.example/g00004/impl"
)

// What chapter 12 says of patterns, names and areas, and promise 17.

// toldMatches holds label against label: in a pattern a star can only be the first one.
func toldMatches(pattern string, host string) bool {
	if toldPatternFault(pattern) != 0 || toldNameFault(host) != 0 {
		return false
	}
	return slices.EqualFunc(strings.Split(pattern, "."), strings.Split(host, "."), func(wanted string, label string) bool {
		return wanted == "*" || wanted == label
	})
}

// toldInside cuts labels off the beginning of the name until it is the area.
func toldInside(name string, area string) bool {
	if toldNameFault(name) != 0 || toldNameFault(area) != 0 {
		return false
	}
	for labels := strings.Split(name, "."); len(labels) > 0; labels = labels[1:] {
		if strings.Join(labels, ".") == area {
			return true
		}
	}
	return false
}

func toldOutside(pattern string, permitted []string, excluded []string) bool {
	if toldPatternFault(pattern) != 0 {
		return true
	}
	labels := strings.Split(pattern, ".")
	star := labels[0] == "*"
	if star {
		labels = labels[1:]
	}
	name := strings.Join(labels, ".")
	outside := len(permitted) != 0
	for _, area := range permitted {
		if toldInside(name, area) {
			outside = false
		}
	}
	for _, area := range excluded {
		oneAhead := toldInside(area, name) && strings.Count(area, ".") == len(labels)
		if toldInside(name, area) || star && oneAhead {
			outside = true
		}
	}
	return outside
}

func checkMatches(t *testing.T, pattern string, host string, want bool) {
	t.Helper()
	if got := impl.NameMatches(pattern, host); got != want || toldMatches(pattern, host) != want {
		t.Errorf("the pattern %q and the host %q: got %v, want %v, told %v", pattern, host, got, want, toldMatches(pattern, host))
	}
}

func checkInside(t *testing.T, name string, area string, want bool) {
	t.Helper()
	if got := impl.NameInside(name, area); got != want || toldInside(name, area) != want {
		t.Errorf("the name %q and the area %q: got %v, want %v, told %v", name, area, got, want, toldInside(name, area))
	}
}

func checkOutside(t *testing.T, pattern string, permitted []string, excluded []string, want bool) {
	t.Helper()
	got, told := impl.PatternOutside(pattern, permitted, excluded), toldOutside(pattern, permitted, excluded)
	if got != want || told != want {
		t.Errorf("the pattern %q, permitted %q, excluded %q: got %v, want %v, told %v", pattern, permitted, excluded, got, want, told)
	}
}

// namesOf are all names of so many labels out of these.
func namesOf(count int, labels ...string) []string {
	if count == 1 {
		return slices.Clone(labels)
	}
	var names []string
	for _, rest := range namesOf(count-1, labels...) {
		for _, label := range labels {
			names = append(names, label+"."+rest)
		}
	}
	return names
}

// namesUpTo are all names of 1 up to so many labels.
func namesUpTo(count int, labels ...string) []string {
	var names []string
	for n := 1; n <= count; n++ {
		names = append(names, namesOf(n, labels...)...)
	}
	return names
}

// noNames are texts that are neither names nor patterns; some of them end as a name does.
func noNames() []string {
	texts := []string{"", ".", "..", "*", "*.", "*.*", "*.*.a", "*.*.a.b", "a.", ".a", ".a.b", "a..b", "a.b.", "A.b", "a.B", "a.A.b", "-a.b", "a-.b", "a.b-", "-.a.b",
		"a*.b", "*a.b", "a.*.b", "a b.a.b", "\x00.a.b", "é.a.b", strings.Repeat("a", 64) + ".a.b", longName(129), "a." + longName(127), longName(300)}
	for _, row := range wrongLabels() {
		for _, label := range row {
			texts = append(texts, label+".a.b", "a."+label+".b")
		}
	}
	// One of the wrong labels is a star.
	return slices.DeleteFunc(texts, func(text string) bool { return text == "*.a.b" })
}

func withStars(names []string) []string {
	all := slices.Clone(names)
	for _, name := range names {
		all = append(all, "*."+name)
	}
	return all
}

func TestNameMatchesExamples(t *testing.T) {
	for _, c := range []struct {
		pattern string
		host    string
		want    bool
	}{
		{"a.b", "a.b", true},
		{"a", "a", true},
		{"a", "b", false},
		{"a", "x.a", false},
		{"x.a", "a", false},
		{"*.a.b", "a.b", false},
		{"*.a.b", "x.a.b", true},
		{"*.a.b", "a.a.b", true},
		{"*.a.b", "x.y.a.b", false},
		{"*.a.b", "a.b.a.b", false},
		{"*.a.b", "xa.b", false},
		{"*.a.b", "b", false},
		{"*.a.b", "x.b", false},
		{"*.a.b", "x.a.bb", false},
		{"*.a.b", "x.a.b.c", false},
		{"*.a.b", "x.aa.b", false},
		{"*.shop.example", "www.shop.example", true},
		{"*.shop.example", "w-1.shop.example", true},
		{"*.shop.example", "webshop.example", false},
	} {
		checkMatches(t, c.pattern, c.host, c.want)
	}
}

// A pattern or a host that is none matches nothing, not even itself.
func TestNameMatchesWrongTexts(t *testing.T) {
	for _, text := range noNames() {
		checkMatches(t, text, text, false)
		for _, name := range []string{"a", "a.b", "x.a.b", "a.a.b", "x.y.a.b"} {
			checkMatches(t, text, name, false)
			checkMatches(t, name, text, false)
			checkMatches(t, "*.a.b", text, false)
			checkMatches(t, "*."+text, name, toldMatches("*."+text, name))
		}
	}
	checkMatches(t, "*.a.b", "*.a.b", false)
	checkMatches(t, "*.a.b", ".a.b", false)
	checkMatches(t, "*.a", "x.a", false)
	checkMatches(t, "*.", "x.", false)
	checkMatches(t, "", "", false)
}

func TestNameMatchesSizes(t *testing.T) {
	for _, n := range []int{64, 100, 125, 126} {
		name := longName(n)
		checkMatches(t, name, name, true)
		checkMatches(t, "*."+name, name, false)
		checkMatches(t, "*."+name, "x."+name, true)
		checkMatches(t, "*."+name, "x.y."+name, false)
		// The pattern has one byte for its label; the host may have more.
		for _, label := range []int{1, 2, 3, 28, 63, 64} {
			checkMatches(t, "*."+name, strings.Repeat("x", label)+"."+name, label <= 63 && label+1+n <= 128)
		}
	}
	for _, n := range []int{127, 128} {
		checkMatches(t, longName(n), longName(n), true)
		checkMatches(t, "*."+longName(n), longName(n), false)
		checkMatches(t, "*."+longName(n), "x."+longName(n), false)
	}
	checkMatches(t, longName(129), longName(129), false)
	checkMatches(t, "*.a.b", strings.Repeat("x", 63)+".a.b", true)
	checkMatches(t, "*.a.b", strings.Repeat("x", 64)+".a.b", false)
}

// Each byte as the label for which the star stands, and within it.
func TestNameMatchesEveryByte(t *testing.T) {
	for value := range 256 {
		one := string([]byte{byte(value)})
		checkMatches(t, "*.a.b", one+".a.b", byteFault(byte(value), true) == 0)
		checkMatches(t, "*.a.b", "x"+one+"y.a.b", byteFault(byte(value), false) == 0)
	}
}

func TestNameMatchesEveryPair(t *testing.T) {
	names := namesUpTo(4, "a", "b", "ab")
	matched := 0
	for _, pattern := range withStars(names) {
		for _, host := range names {
			want := toldMatches(pattern, host)
			checkMatches(t, pattern, host, want)
			if want {
				matched++
			}
		}
	}
	// Each name by itself; those of 3 and of 4 labels by a star ahead of the others too.
	if want := 120 + 27 + 81; matched != want {
		t.Errorf("%d pairs match, want %d", matched, want)
	}
}

func TestNameInsideExamples(t *testing.T) {
	for _, c := range []struct {
		name string
		area string
		want bool
	}{
		{"a", "a", true},
		{"a.b", "a.b", true},
		{"a.b", "b", true},
		{"x.a.b", "a.b", true},
		{"y.x.a.b", "a.b", true},
		{"y.x.a.b", "b", true},
		{"b", "a.b", false},
		{"a.b", "a", false},
		{"a.b", "x.a.b", false},
		{"ab", "b", false},
		{"xa.b", "a.b", false},
		{"x-a.b", "a.b", false},
		{"x.xa.b", "a.b", false},
		{"a.b.c", "a.b", false},
		{"a.bb", "b", false},
		{"bb", "b", false},
		{"www.shop.example", "shop.example", true},
		{"webshop.example", "shop.example", false},
		{"webshop.example", "example", true},
	} {
		checkInside(t, c.name, c.area, c.want)
	}
}

func TestNameInsideWrongTexts(t *testing.T) {
	for _, text := range append(noNames(), "*.a.b", "*.b.a.b") {
		checkInside(t, text, text, false)
		for _, name := range []string{"a", "b", "a.b", "x.a.b", "a.a.b"} {
			checkInside(t, text, name, false)
			checkInside(t, name, text, false)
			checkInside(t, "x."+text, text, false)
		}
	}
	checkInside(t, "a.b", "", false)
	checkInside(t, "a.b", ".b", false)
	checkInside(t, "a..b", ".b", false)
	checkInside(t, "", "", false)
}

func TestNameInsideSizes(t *testing.T) {
	for n := 1; n <= 126; n++ {
		checkInside(t, longName(n), longName(n), true)
		checkInside(t, "x."+longName(n), longName(n), true)
		checkInside(t, "x"+longName(n), longName(n), false)
	}
	for _, n := range []int{127, 128} {
		checkInside(t, longName(n), longName(n), true)
		checkInside(t, "x."+longName(n), longName(n), false)
	}
	checkInside(t, longName(129), longName(129), false)
}

// Two names are inside one another only if they are equal.
func TestPromise17OneDirection(t *testing.T) {
	r := rand.New(rand.NewSource(220))
	names := namesUpTo(4, "a", "b", "ab")
	for range 60 {
		name := randomName(r)
		_, rest, _ := strings.Cut(name, ".")
		names = append(names, name, rest, strings.TrimLeft(name, "-"+name[:1]))
	}
	inside := 0
	for _, name := range names {
		for _, area := range names {
			want := toldInside(name, area)
			checkInside(t, name, area, want)
			if impl.NameInside(name, area) && impl.NameInside(area, name) && name != area {
				t.Errorf("%q and %q are inside one another", name, area)
			}
			if want && name != area {
				inside++
			}
		}
	}
	if inside < 300 {
		t.Errorf("only %d names are inside another", inside)
	}
}

func TestPatternOutsideExamples(t *testing.T) {
	for _, c := range []struct {
		pattern   string
		permitted []string
		excluded  []string
		want      bool
	}{
		{"a.b", nil, nil, false},
		{"*.a.b", nil, nil, false},
		{"*.a.b", []string{}, []string{}, false},
		{"a.b", []string{"b"}, nil, false},
		{"a.b", []string{"a.b"}, nil, false},
		{"a.b", []string{"x.a.b"}, nil, true},
		{"a.b", []string{"a"}, nil, true},
		{"a.b", []string{"c", "d", "b"}, nil, false},
		{"ab", []string{"b"}, nil, true},
		{"*.a.b", []string{"a.b"}, nil, false},
		{"*.a.b", []string{"x.a.b"}, nil, true},
		{"*.a.b", []string{"x.a.b", "b"}, nil, false},
		// An excluded area that is one label, a point, and the name.
		{"*.a.b", nil, []string{"x.a.b"}, true},
		{"a.b", nil, []string{"x.a.b"}, false},
		{"*.a.b", nil, []string{"y.x.a.b"}, false},
		{"*.a.b", nil, []string{"xa.b"}, false},
		{"*.a.b", nil, []string{"x.b"}, false},
		{"*.a.b", []string{"b"}, []string{"x.a.b"}, true},
		// The name itself, and what it lies inside.
		{"*.a.b", nil, []string{"a.b"}, true},
		{"a.b", nil, []string{"a.b"}, true},
		{"*.a.b", nil, []string{"b"}, true},
		{"a.b", nil, []string{"c", "b"}, true},
		{"a.b", []string{"a.b"}, []string{"a.b"}, true},
		{"a.b", []string{"b"}, []string{"c.b"}, false},
	} {
		checkOutside(t, c.pattern, c.permitted, c.excluded, c.want)
	}
}

// What is no pattern is outside of everything.
func TestPatternOutsideWrongPatterns(t *testing.T) {
	for _, text := range append(noNames(), "*.b", "*.a.B", "**.a.b") {
		for _, permitted := range [][]string{nil, {"b"}, {"a.b"}, {text}} {
			for _, excluded := range [][]string{nil, {"c"}, {text}} {
				checkOutside(t, text, permitted, excluded, true)
			}
		}
	}
}

// Areas that are no host names have nothing inside: they permit nothing and exclude nothing.
func TestPatternOutsideWrongAreas(t *testing.T) {
	for _, area := range append(noNames(), "*.a.b", "*.b") {
		for _, pattern := range []string{"a.b", "*.a.b", "x.a.b"} {
			checkOutside(t, pattern, []string{area}, nil, true)
			checkOutside(t, pattern, []string{area, "b"}, nil, false)
			checkOutside(t, pattern, []string{"b", area}, nil, false)
			checkOutside(t, pattern, nil, []string{area}, false)
			checkOutside(t, pattern, nil, []string{area, "b"}, true)
			checkOutside(t, pattern, nil, []string{"a.b", area}, true)
			checkOutside(t, pattern, []string{"b"}, []string{area}, false)
			checkOutside(t, pattern, []string{area}, []string{area}, true)
		}
	}
	// One label more than the longest name has makes an area that is none.
	long := longName(126)
	checkOutside(t, "*."+long, nil, []string{"x." + long}, true)
	checkOutside(t, "*."+long, nil, []string{"xy." + long}, false)
	checkOutside(t, long, []string{long}, []string{"x." + long}, false)
}

// matchedHosts are hosts that the pattern matches: of one with a star some that areas name, and one that none names.
func matchedHosts(pattern string, labels ...string) []string {
	name, star := strings.CutPrefix(pattern, "*.")
	if !star {
		return []string{pattern}
	}
	var hosts []string
	for _, label := range append(labels, "free") {
		hosts = append(hosts, label+"."+name)
	}
	return hosts
}

func insideAny(host string, areas []string) bool {
	return slices.ContainsFunc(areas, func(area string) bool { return impl.NameInside(host, area) })
}

// checkPromise17 asks both ways round: what is not outside has good hosts alone, and what is outside has one that is not,
// as long as the areas leave a label free.
func checkPromise17(t *testing.T, pattern string, permitted []string, excluded []string, labels ...string) bool {
	t.Helper()
	outside := impl.PatternOutside(pattern, permitted, excluded)
	if told := toldOutside(pattern, permitted, excluded); outside != told {
		t.Errorf("the pattern %q, permitted %q, excluded %q: got %v, told %v", pattern, permitted, excluded, outside, told)
	}
	wrong := false
	for _, host := range matchedHosts(pattern, labels...) {
		if !impl.NameMatches(pattern, host) {
			t.Errorf("%q does not match %q", pattern, host)
		}
		if insideAny(host, excluded) || len(permitted) > 0 && !insideAny(host, permitted) {
			wrong = true
		}
	}
	if wrong != outside {
		t.Errorf("the pattern %q, permitted %q, excluded %q: outside %v, a host that may not be %v", pattern, permitted, excluded, outside, wrong)
	}
	return outside
}

func TestPromise17EveryArea(t *testing.T) {
	names := namesUpTo(3, "a", "b")
	lists := [][]string{nil}
	for _, name := range append(names, "", "*.a.b", "A") {
		lists = append(lists, []string{name})
	}
	for _, pattern := range withStars(names) {
		if toldPatternFault(pattern) != 0 {
			continue
		}
		for _, permitted := range lists {
			for _, excluded := range lists {
				checkPromise17(t, pattern, permitted, excluded, "a", "b")
			}
		}
	}
}

// randomAreas are some out of these, in any order, now and then the same twice.
func randomAreas(r *rand.Rand, areas []string, most int) []string {
	var list []string
	for range r.Intn(most + 1) {
		list = append(list, areas[r.Intn(len(areas))])
	}
	return list
}

func TestPromise17ManyAreas(t *testing.T) {
	r := rand.New(rand.NewSource(221))
	names := namesUpTo(4, "a", "b", "ab")
	areas := append(slices.Clone(names), "", "*.a.b", "A.a", "a..b", ".a.b")
	outside := map[bool]int{}
	for range 30000 {
		pattern := names[r.Intn(len(names))]
		if strings.Contains(pattern, ".") && r.Intn(2) == 0 {
			pattern = "*." + pattern
		}
		permitted, excluded := randomAreas(r, areas, 6), randomAreas(r, areas, 6)
		if len(permitted) > 0 && r.Intn(2) == 0 {
			// The shortest areas permit the most.
			permitted[r.Intn(len(permitted))] = names[r.Intn(3)]
		}
		outside[checkPromise17(t, pattern, permitted, excluded, "a", "b", "ab")]++
	}
	if outside[true] < 5000 || outside[false] < 5000 {
		t.Errorf("outside or not, too few of one: %v", outside)
	}
}

// The same with names of any length and make.
func TestPromise17RandomNames(t *testing.T) {
	r := rand.New(rand.NewSource(222))
	outside := map[bool]int{}
	for range 3000 {
		name := randomName(r)
		for len(name) > 100 {
			name = randomName(r)
		}
		_, above, _ := strings.Cut(name, ".")
		areas := []string{name, above, "x." + name, "y.x." + name, "x" + name, randomName(r), randomName(r)}
		for _, pattern := range []string{name, "*." + name} {
			outside[checkPromise17(t, pattern, randomAreas(r, areas, 2), randomAreas(r, areas, 2), "x", "y")]++
		}
	}
	if outside[true] < 1000 || outside[false] < 1000 {
		t.Errorf("outside or not, too few of one: %v", outside)
	}
}
