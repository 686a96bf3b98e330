package tests

import (
	"bytes"
	"math"
	"math/rand"
	"slices"
	"strings"
	"testing"

	"loop.example/g00004/impl"
)

// What chapter 11 says of the rules of a certificate, and of what there is of one that breaks some.

// certChange breaks one rule of a certificate, or none where rule is 0.
type certChange struct {
	rule   int64
	change func(c *impl.Cert)
}

func (one certChange) of(c impl.Cert) impl.Cert {
	c = cloneCert(c)
	one.change(&c)
	return c
}

// checkCertFault holds a certificate to the first rule that it breaks, and to what is made of it then.
func checkCertFault(t *testing.T, c impl.Cert, want int64) {
	t.Helper()
	if got := impl.CertFault(c); got != want || toldCertFault(c) != want {
		t.Errorf("%s: got %d, want %d, told %d", certInShort(c), got, want, toldCertFault(c))
	}
	if want == 0 || want == 10 {
		checkList(t, "body", impl.CertBody(c), bodyBytes(toldCertItems(c)))
	} else {
		checkList(t, "body of what is not well-formed", impl.CertBody(c), nil)
		if issued := impl.IssueCert(c, upwards(32)); !sameCert(issued, impl.Cert{}) {
			t.Errorf("%s breaks rule %d and was issued", certInShort(c), want)
		}
	}
	if want == 0 {
		checkList(t, "encoded", impl.EncodeCert(c), toldCertForm(c))
	} else {
		checkList(t, "encoded though not well-formed", impl.EncodeCert(c), nil)
	}
}

func serialChanges() []certChange {
	var all []certChange
	for _, serial := range [][]byte{nil, {0}, {0, 1}, make([]byte, 20), make([]byte, 21), full(21), full(22), full(257), full(276)} {
		all = append(all, certChange{1, func(c *impl.Cert) { c.Serial = serial }})
	}
	for _, serial := range [][]byte{{1}, {255}, {128}, {1, 0}, full(20), full(19), powerOf256(19)} {
		all = append(all, certChange{0, func(c *impl.Cert) { c.Serial = serial }})
	}
	return all
}

// wrongTitles are too short, too long, or have a strange byte at the beginning, in the middle or at the end.
func wrongTitles() []string {
	titles := []string{"", strings.Repeat("a", 65), strings.Repeat(" ", 66), strings.Repeat("a", 257), strings.Repeat("a", 300), "é", "a\tb"}
	for _, strange := range []string{"\x00", "\n", "\x1f", "\x7f", "\x80", "\xff"} {
		titles = append(titles, strange, strange+"a", "a"+strange, "a"+strange+"b", strings.Repeat("a", 63)+strange)
	}
	return titles
}

func titleChanges() []certChange {
	var all []certChange
	for _, title := range wrongTitles() {
		all = append(all, certChange{2, func(c *impl.Cert) { c.Issuer = title }}, certChange{3, func(c *impl.Cert) { c.Subject = title }})
	}
	for _, title := range []string{" ", "~", "a", " ~", "A. B, C/D \"E\" \\", strings.Repeat(" ", 64), strings.Repeat("~", 64), strings.Repeat("x", 63)} {
		all = append(all, certChange{0, func(c *impl.Cert) { c.Issuer = title }}, certChange{0, func(c *impl.Cert) { c.Subject = title }})
	}
	return all
}

func timeChanges() []certChange {
	const last = impl.MaxTime
	var all []certChange
	for _, times := range [][2]int64{{-1, 0}, {-1, last}, {-1, -1}, {0, -1}, {1, 0}, {last, last - 1}, {last, 0}, {2, 1}, {0, last + 1}, {last, last + 1},
		{last + 1, last + 1}, {last + 1, last}, {math.MinInt64, 0}, {math.MinInt64, math.MaxInt64}, {0, math.MaxInt64}, {math.MaxInt64, math.MaxInt64},
		{math.MinInt64, math.MinInt64}, {math.MaxInt64, math.MinInt64}, {0, 1 << 40}, {1 << 40, 0}, {-1 << 40, 5}} {
		all = append(all, certChange{4, func(c *impl.Cert) { c.From, c.Until = times[0], times[1] }})
	}
	for _, times := range [][2]int64{{0, 0}, {0, 1}, {1, 1}, {0, last}, {last, last}, {last - 1, last}, {1 << 32, 1 << 33}} {
		all = append(all, certChange{0, func(c *impl.Cert) { c.From, c.Until = times[0], times[1] }})
	}
	return all
}

// listChanges set a list of bytes that has to have just so many.
func listChanges(rule int64, size int, set func(c *impl.Cert, list []byte)) []certChange {
	var all []certChange
	for _, n := range []int{0, 1, size - 1, size + 1, 2 * size, 256, 256 + size} {
		all = append(all, certChange{rule, func(c *impl.Cert) { set(c, upwards(n)) }})
	}
	for _, list := range [][]byte{make([]byte, size), full(size), upwards(size)} {
		all = append(all, certChange{0, func(c *impl.Cert) { set(c, list) }})
	}
	return all
}

// countedNames rise strictly.
func countedNames(count int) []string {
	names := make([]string, count)
	for i := range names {
		names[i] = "n" + digitsOf(i, 5) + ".example"
	}
	return names
}

// wrongOrders break a list of host names alone by their number or order.
func wrongOrders() [][]string {
	lists := [][]string{countedNames(17), countedNames(18), countedNames(256), countedNames(272), {"a", "a"}, {"b", "a"}, {"a.b", "a"}, {"b.a", "a.b"},
		{"a.b", "a-b"}, {"a0", "a.b"}, {"aa", "a"}, {"a", "b", "b"}, {"a", "a", "b"}, {"a", "c", "b"}, {"b", "a", "c"}, {"a", "b", "a"}, {"9", "10"}}
	for i := range 15 {
		exchanged, doubled := countedNames(16), countedNames(16)
		exchanged[i], exchanged[i+1] = exchanged[i+1], exchanged[i]
		doubled[i] = doubled[i+1]
		lists = append(lists, exchanged, doubled)
	}
	return lists
}

// withName puts a name into a list of others where it belongs by its order.
func withName(name string, names ...string) []string {
	list := append(slices.Clone(names), name)
	slices.Sort(list)
	return list
}

// wrongNames are lists in order of which one is no host name.
func wrongNames() [][]string {
	var lists [][]string
	for _, row := range wrongLabels() {
		for _, label := range row {
			for _, name := range []string{label, "a." + label, label + ".a"} {
				lists = append(lists, []string{name}, withName(name, countedNames(15)...), withName(name, "0", "zz"))
			}
		}
	}
	for _, name := range []string{longName(129), "*", "*.", "*.a", "a.*.b", "**.a.b", "*.*.a.b"} {
		lists = append(lists, []string{name}, withName(name, "zz"))
	}
	return lists
}

func goodNames() [][]string {
	return [][]string{nil, {}, {"a"}, {"a", "b"}, {"a", "a.b"}, {"a-b", "a.b", "a0"}, {"10", "9"}, {"a", "aa", "b"}, {longName(128)}, countedNames(15), countedNames(16)}
}

func hostChanges() []certChange {
	var all []certChange
	for _, list := range slices.Concat(wrongOrders(), wrongNames(), [][]string{{"*.b.c", "*.a.b"}, {"*.a.b", "*.a.b"}, {"a.b", "*.a.b"}, {"*." + longName(127)}}) {
		all = append(all, certChange{6, func(c *impl.Cert) { c.Hosts = list }})
	}
	for _, list := range slices.Concat(goodNames(), [][]string{{"*.a.b"}, {"*.a.b", "*.b.c"}, {"*.a.b", "a.b"}, {"*." + longName(126)}, withName("*.a.b", countedNames(15)...)}) {
		all = append(all, certChange{0, func(c *impl.Cert) { c.Hosts = list }})
	}
	return all
}

// strangeNumbers would be small ones if they were cut to fewer bits.
func strangeNumbers() []int64 {
	return []int64{math.MinInt64, math.MaxInt64, -1 << 32, 1 << 32, 1<<32 + 1, 1<<32 + 4, 1<<32 - 1, 1 << 16, 256, 257, 260, 255, 127, 128, -128, -129, -256}
}

func authorityChanges() []certChange {
	var all []certChange
	for _, limit := range append(strangeNumbers(), -3, -2, 17, 18, 32) {
		all = append(all, certChange{7, func(c *impl.Cert) { c.PathLimit = limit }})
	}
	for limit := int64(-1); limit <= 16; limit++ {
		all = append(all, certChange{0, func(c *impl.Cert) { c.PathLimit = limit }})
	}
	for _, uses := range append(strangeNumbers(), -4, -1, 0, 1, 2, 3, 8, 9, 12, 15, 16) {
		all = append(all, certChange{8, func(c *impl.Cert) { c.Uses = uses }})
	}
	for _, uses := range []int64{4, 5, 6, 7} {
		all = append(all, certChange{0, func(c *impl.Cert) { c.Uses = uses }})
	}
	for _, list := range slices.Concat(wrongOrders(), wrongNames(), [][]string{{"*.a.b"}, {"*.a.b", "a"}}) {
		all = append(all, certChange{9, func(c *impl.Cert) { c.Permitted = list }}, certChange{9, func(c *impl.Cert) { c.Excluded = list }})
	}
	for _, list := range goodNames() {
		all = append(all, certChange{0, func(c *impl.Cert) { c.Permitted = list }}, certChange{0, func(c *impl.Cert) { c.Excluded = list }},
			certChange{0, func(c *impl.Cert) { c.Permitted, c.Excluded = list, list }})
	}
	return all
}

// leafChanges break rule 7 by areas too, whatever else is wrong with those.
func leafChanges() []certChange {
	var all []certChange
	for _, limit := range append(strangeNumbers(), -3, -2, 0, 1, 2, 15, 16, 17) {
		all = append(all, certChange{7, func(c *impl.Cert) { c.PathLimit = limit }})
	}
	for _, list := range [][]string{{"a"}, {"a", "b"}, {""}, {"A"}, {"b", "a"}, countedNames(16), countedNames(17)} {
		all = append(all, certChange{7, func(c *impl.Cert) { c.Permitted = list }}, certChange{7, func(c *impl.Cert) { c.Excluded = list }})
	}
	for _, uses := range append(strangeNumbers(), -4, -1, 0, 4, 5, 6, 7, 8, 9, 11) {
		all = append(all, certChange{8, func(c *impl.Cert) { c.Uses = uses }})
	}
	for _, uses := range []int64{1, 2, 3} {
		all = append(all, certChange{0, func(c *impl.Cert) { c.Uses = uses }})
	}
	all = append(all, certChange{0, func(c *impl.Cert) { c.Permitted, c.Excluded = []string{}, []string{} }})
	return all
}

func commonChanges() []certChange {
	return slices.Concat(serialChanges(), titleChanges(), timeChanges(),
		listChanges(5, 32, func(c *impl.Cert, list []byte) { c.Key = list }), hostChanges(),
		listChanges(10, 64, func(c *impl.Cert, list []byte) { c.Signature = list }))
}

func changesOf(c impl.Cert) []certChange {
	if c.Authority {
		return append(commonChanges(), authorityChanges()...)
	}
	return append(commonChanges(), leafChanges()...)
}

func plainCerts() []impl.Cert {
	return []impl.Cert{plainLeaf(), plainAuthority()}
}

func TestCertConstants(t *testing.T) {
	got := []int64{impl.MaxHosts, impl.MaxPathLimit, impl.UseServer, impl.UseClient, impl.UseAuthority}
	if want := []int64{16, 16, 1, 2, 4}; !slices.Equal(got, want) {
		t.Errorf("got %d, want %d", got, want)
	}
}

func TestCertFaultOfNothing(t *testing.T) {
	checkCertFault(t, impl.Cert{}, 1)
	for _, c := range append(plainCerts(), greatestCert()) {
		checkCertFault(t, c, 0)
	}
}

func TestCertFaultEachRuleAlone(t *testing.T) {
	for _, c := range plainCerts() {
		broken := map[int64]int{}
		for _, one := range changesOf(c) {
			checkCertFault(t, one.of(c), one.rule)
			broken[one.rule]++
		}
		for rule := int64(1); rule <= 10; rule++ {
			// Without an authority, areas break rule 7 already.
			if broken[rule] == 0 && (c.Authority || rule != 9) {
				t.Errorf("%s: rule %d is never broken", certInShort(c), rule)
			}
		}
	}
}

// With every byte in it a title shows which ones may stand there.
func TestCertFaultEveryTitleByte(t *testing.T) {
	for value := range 256 {
		for _, title := range []string{string([]byte{byte(value)}), string([]byte{'a', byte(value), 'b'})} {
			issued, held := plainLeaf(), plainLeaf()
			issued.Issuer, held.Subject = title, title
			wantIssued, wantHeld := int64(2), int64(3)
			if value >= 32 && value <= 126 {
				wantIssued, wantHeld = 0, 0
			}
			checkCertFault(t, issued, wantIssued)
			checkCertFault(t, held, wantHeld)
		}
	}
}

// firstOf is the lower of two numbers of rules, of which 0 is none.
func firstOf(a int64, b int64) int64 {
	if a == 0 || b == 0 {
		return a + b
	}
	return min(a, b)
}

// fewOfEach are some changes for every rule.
func fewOfEach(r *rand.Rand, changes []certChange) []certChange {
	var few []certChange
	counts := map[int64]int{}
	for _, i := range r.Perm(len(changes)) {
		one := changes[i]
		if counts[one.rule] < 12 {
			few = append(few, one)
		}
		counts[one.rule]++
	}
	return few
}

// Any two rules broken together; where both changes are to one list, the second one is all there is.
func TestCertFaultFirstRuleDecides(t *testing.T) {
	r := rand.New(rand.NewSource(192))
	for _, c := range plainCerts() {
		few := fewOfEach(r, changesOf(c))
		for _, first := range few {
			for _, second := range few {
				both := second.of(first.of(c))
				want := firstOf(first.rule, second.rule)
				if first.rule == second.rule || first.rule == 0 || second.rule == 0 {
					want = toldCertFault(both)
				}
				checkCertFault(t, both, want)
			}
		}
	}
}

func TestCertFaultManyRulesAtOnce(t *testing.T) {
	r := rand.New(rand.NewSource(193))
	for _, c := range plainCerts() {
		changes := changesOf(c)
		for range 3000 {
			broken := c
			for range 1 + r.Intn(6) {
				broken = changes[r.Intn(len(changes))].of(broken)
			}
			checkCertFault(t, broken, toldCertFault(broken))
		}
	}
}

// What is an authority breaks rule 8 as none, and the other way round, if rule 7 lets it.
func TestCertFaultOfTheOtherKind(t *testing.T) {
	c := plainAuthority()
	c.Authority = false
	checkCertFault(t, c, 7)
	c.PathLimit = -1
	checkCertFault(t, c, 7)
	c.Permitted = nil
	checkCertFault(t, c, 7)
	c.Excluded = nil
	checkCertFault(t, c, 8)
	c.Uses = 3
	checkCertFault(t, c, 0)
	c.Authority = true
	checkCertFault(t, c, 8)
	c.Uses = 4
	checkCertFault(t, c, 0)
	for _, limit := range []int64{-1, 0, 16} {
		c.PathLimit = limit
		checkCertFault(t, c, 0)
	}
}

// A list that breaks its rule at any length breaks it whatever stands in it.
func TestCertFaultOtherLengths(t *testing.T) {
	r := rand.New(rand.NewSource(194))
	for _, c := range plainCerts() {
		for _, key := range notOfSize(r, 32) {
			other := cloneCert(c)
			other.Key = key
			checkCertFault(t, other, 5)
		}
		for _, signature := range notOfSize(r, 64) {
			other := cloneCert(c)
			other.Signature = signature
			checkCertFault(t, other, 10)
		}
		for n := range 60 {
			other := cloneCert(c)
			other.Serial = bytes.Repeat([]byte{1}, n)
			want := int64(0)
			if n == 0 || n > 20 {
				want = 1
			}
			checkCertFault(t, other, want)
		}
	}
}
