package tests

import (
	"bytes"
	"math"
	"math/rand"
	"slices"
	"testing"

	"loop.example/g00004/impl"
)

// Promise 18: each of the eleven rules broken alone, at each place, and many together.

// chainChange breaks one rule at one place: ahead of the signing, or behind it.
type chainChange struct {
	rule   int64
	place  int64
	ahead  func(c *chainCase)
	behind func(c *chainCase)
}

// with has the changes made, and all signatures in between.
func (c chainCase) with(changes ...chainChange) chainCase {
	c = c.clone()
	// What changes how many there are comes last, so that no other change misses its place.
	changes = slices.Clone(changes)
	slices.SortStableFunc(changes, func(a chainChange, b chainChange) int { return int(b.rule - a.rule) })
	for _, one := range changes {
		if one.ahead != nil {
			one.ahead(&c)
		}
	}
	c = c.signed()
	for _, one := range changes {
		if one.behind != nil {
			one.behind(&c)
		}
	}
	return c
}

func manyRoots(count int) []impl.Root {
	var roots []impl.Root
	for i := range count {
		roots = append(roots, impl.Root{Subject: "Root " + digitsOf(i, 2), Key: libraryPublic(seedNumber(100 + i))})
	}
	return roots
}

func sizeChanges() []chainChange {
	return []chainChange{
		{rule: 1, behind: func(c *chainCase) { c.chain = nil }},
		{rule: 1, behind: func(c *chainCase) { c.chain = []impl.Cert{} }},
		{rule: 1, behind: func(c *chainCase) { c.chain = append(c.chain, goodCase(5).chain[len(c.chain):]...) }},
		{rule: 1, behind: func(c *chainCase) { c.roots = append(c.roots, manyRoots(17-len(c.roots))...) }},
		{rule: 1, behind: func(c *chainCase) { c.roots = append(c.roots, manyRoots(40)...) }},
	}
}

// formChanges break each rule of a certificate once; signing could mend the last one, and nothing is signed of the others.
func formChanges(base chainCase) []chainChange {
	var all []chainChange
	for at := range base.chain {
		broken := map[int64]bool{0: true}
		for _, one := range changesOf(base.chain[at]) {
			if !broken[one.rule] {
				all = append(all, chainChange{rule: 2, place: int64(at), behind: func(c *chainCase) { c.chain[at] = one.of(c.chain[at]) }})
			}
			broken[one.rule] = true
		}
	}
	return all
}

func spanChanges(base chainCase) []chainChange {
	var all []chainChange
	for at := range base.chain {
		for _, span := range [][2]int64{{5001, 5001}, {5001, impl.MaxTime}, {0, 4999}, {4999, 4999}, {0, 0}, {impl.MaxTime, impl.MaxTime}} {
			all = append(all, chainChange{rule: 3, place: int64(at), ahead: func(c *chainCase) { c.chain[at].From, c.chain[at].Until = span[0], span[1] }})
		}
	}
	return all
}

func linkChanges(base chainCase) []chainChange {
	var all []chainChange
	for at := range base.chain[1:] {
		for _, title := range []string{"Somebody", "authority 1", " ", "Leaf", base.chain[at].Issuer + " ", base.chain[at].Issuer[1:]} {
			all = append(all,
				chainChange{rule: 4, place: int64(at), ahead: func(c *chainCase) { c.chain[at].Issuer = title }},
				chainChange{rule: 4, place: int64(at), ahead: func(c *chainCase) { c.chain[at+1].Subject = title }})
		}
	}
	return all
}

func isRightRoot(root impl.Root) bool {
	return root.Subject == "Root"
}

// setRoot puts a root in the place of the right one, unless another change has taken that away.
func (c chainCase) setRoot(root impl.Root) {
	if at := slices.IndexFunc(c.roots, isRightRoot); at >= 0 {
		c.roots[at] = root
	}
}

func rootChanges(base chainCase) []chainChange {
	last := int64(len(base.chain) - 1)
	all := []chainChange{
		{rule: 5, place: last, ahead: func(c *chainCase) { c.roots = nil }},
		{rule: 5, place: last, ahead: func(c *chainCase) { c.roots = slices.DeleteFunc(c.roots, isRightRoot) }},
		{rule: 5, place: last, ahead: func(c *chainCase) { c.roots = manyRoots(16) }},
	}
	for _, title := range []string{"Nobody", "root", "Root ", "Roo", "Authority 1"} {
		all = append(all,
			chainChange{rule: 5, place: last, ahead: func(c *chainCase) { c.last().Issuer = title }},
			chainChange{rule: 5, place: last, ahead: func(c *chainCase) { c.setRoot(impl.Root{Subject: title, Key: full(32)}) }})
	}
	return all
}

// authorityLost makes an end of an authority, as well-formed as before.
func authorityLost(cert *impl.Cert, uses int64) {
	cert.Authority, cert.Uses, cert.PathLimit, cert.Permitted, cert.Excluded = false, uses, -1, nil, nil
}

func pathChanges(base chainCase) []chainChange {
	var all []chainChange
	for at := 1; at < len(base.chain); at++ {
		for uses := int64(1); uses <= 3; uses++ {
			all = append(all, chainChange{rule: 6, place: int64(at), ahead: func(c *chainCase) { authorityLost(&c.chain[at], uses) }})
		}
		for limit := int64(0); limit <= int64(at)-2; limit++ {
			all = append(all, chainChange{rule: 7, place: int64(at), ahead: func(c *chainCase) { c.chain[at].PathLimit = limit }})
		}
	}
	return all
}

func wantedChanges() []chainChange {
	var all []chainChange
	for _, use := range []int64{0, 8, 9, 16, -1, -8, 4, 5, 6, 7, 1<<32 + 1, math.MinInt64, math.MinInt64 + 1, math.MaxInt64} {
		all = append(all, chainChange{rule: 8, ahead: func(c *chainCase) { c.w.Use = use }})
	}
	all = append(all, chainChange{rule: 8, ahead: func(c *chainCase) { c.chain[0].Uses = 2 }},
		chainChange{rule: 8, ahead: func(c *chainCase) { c.chain[0].Uses, c.w.Use = 1, 3 }})
	for _, host := range []string{"", "example", "x.www.shop.example", "shop.exampl", "webshop.example", "www.shop.example.", "*.shop.example", "WWW.shop.example", longName(129)} {
		all = append(all, chainChange{rule: 9, ahead: func(c *chainCase) { c.w.Host = host }})
	}
	for _, hosts := range [][]string{nil, {"shop.example"}, {"*.www.shop.example", "x.shop.example"}} {
		all = append(all, chainChange{rule: 9, ahead: func(c *chainCase) { c.chain[0].Hosts = hosts }})
	}
	return all
}

// areaChanges shut out one of the leaf's patterns, be it the one that matches the host or the other.
func areaChanges(base chainCase) []chainChange {
	var all []chainChange
	for at := 1; at < len(base.chain); at++ {
		for _, areas := range [][]string{{"local"}, {"www.shop.example"}, {"www.shop.example", "x.shop.example"}, {"hop.example"}} {
			all = append(all, chainChange{rule: 10, place: int64(at), ahead: func(c *chainCase) { c.chain[at].Permitted = areas }})
		}
		for _, areas := range [][]string{{"example"}, {"shop.example"}, {"www.shop.example"}, {"other.shop.example"}, {"a", "b", "shop.example"}} {
			all = append(all, chainChange{rule: 10, place: int64(at), ahead: func(c *chainCase) { c.chain[at].Excluded = areas }})
		}
	}
	return all
}

// spoiltSignatures are told by what becomes of a certificate behind its signing.
func spoiltSignatures() []func(cert *impl.Cert) {
	return []func(cert *impl.Cert){
		func(cert *impl.Cert) { cert.Signature = withBit(cert.Signature, 0) },
		func(cert *impl.Cert) { cert.Signature = withBit(cert.Signature, 300) },
		func(cert *impl.Cert) { cert.Signature = make([]byte, 64) },
		func(cert *impl.Cert) { cert.Signature = withOrders(cert.Signature)[0] },
		func(cert *impl.Cert) { cert.Serial = append(bytes.Clone(cert.Serial), 1) },
		func(cert *impl.Cert) { *cert = libraryIssue(*cert, seedNumber(98)) },
		func(cert *impl.Cert) { cert.Until++ },
	}
}

func signatureChanges(base chainCase) []chainChange {
	var all []chainChange
	for at := range base.chain {
		for _, spoilt := range spoiltSignatures() {
			all = append(all, chainChange{rule: 11, place: int64(at), behind: func(c *chainCase) { spoilt(&c.chain[at]) }})
		}
		if at > 0 {
			// With another key it did not issue the one ahead of it, and was itself issued well.
			all = append(all, chainChange{rule: 11, place: int64(at) - 1, ahead: func(c *chainCase) { c.chain[at].Key = libraryPublic(seedNumber(97)) }})
		}
	}
	for _, key := range [][]byte{nil, libraryPublic(seedNumber(96)), full(32), full(31), libraryPublic(base.seeds[len(base.chain)])[:31],
		append(libraryPublic(base.seeds[len(base.chain)]), 0)} {
		all = append(all, chainChange{rule: 11, place: int64(len(base.chain)) - 1, ahead: func(c *chainCase) { c.setRoot(impl.Root{Subject: "Root", Key: key}) }})
	}
	return all
}

func chainChanges(base chainCase) []chainChange {
	return slices.Concat(sizeChanges(), formChanges(base), spanChanges(base), linkChanges(base), rootChanges(base), pathChanges(base), wantedChanges(),
		areaChanges(base), signatureChanges(base))
}

// rulesOf are those that a chain of so many can break.
func rulesOf(count int) []int64 {
	switch count {
	case 1:
		return []int64{1, 2, 3, 5, 8, 9, 11}
	case 2:
		return []int64{1, 2, 3, 4, 5, 6, 8, 9, 10, 11}
	}
	return []int64{1, 2, 3, 4, 5, 6, 7, 8, 9, 10, 11}
}

func TestChainConstants(t *testing.T) {
	got := []int64{impl.MaxChain, impl.MaxRoots, impl.MaxPool}
	if want := []int64{4, 16, 8}; !slices.Equal(got, want) {
		t.Errorf("got %d, want %d", got, want)
	}
}

func TestPromise18EachRuleAlone(t *testing.T) {
	for count := 1; count <= impl.MaxChain; count++ {
		base := goodCase(count)
		checkChain(t, "nothing broken", base, 0, 0)
		broken := map[int64]int{}
		for _, one := range chainChanges(base) {
			checkChain(t, "one rule broken", base.with(one), one.rule, one.place)
			broken[one.rule]++
		}
		for _, rule := range rulesOf(count) {
			if broken[rule] == 0 {
				t.Errorf("%d certificates: rule %d is never broken", count, rule)
			}
		}
	}
}

// Each place that a rule speaks of is told where it is broken there alone, and where it is broken behind it too.
func TestPromise18LeastPlace(t *testing.T) {
	base := goodCase(impl.MaxChain)
	changes := chainChanges(base)
	told := map[impl.ChainAnswer]int{}
	for _, first := range changes {
		for _, second := range changes {
			if first.rule == second.rule && first.place < second.place {
				checkChain(t, "one rule broken twice", base.with(first, second), first.rule, first.place)
				told[impl.ChainAnswer{Code: first.rule, Place: first.place}]++
			}
		}
	}
	for rule, places := range map[int64][]int64{2: {0, 1, 2}, 3: {0, 1, 2}, 4: {0, 1}, 6: {1, 2}, 7: {2}, 10: {1, 2}, 11: {0, 1, 2}} {
		for _, place := range places {
			if told[impl.ChainAnswer{Code: rule, Place: place}] == 0 {
				t.Errorf("rule %d is never broken at place %d and behind it", rule, place)
			}
		}
	}
}

// fewChanges are some for each rule and place.
func fewChanges(r *rand.Rand, changes []chainChange, most int) []chainChange {
	var few []chainChange
	counts := map[impl.ChainAnswer]int{}
	for _, i := range r.Perm(len(changes)) {
		spot := impl.ChainAnswer{Code: changes[i].rule, Place: changes[i].place}
		if counts[spot] < most {
			few = append(few, changes[i])
		}
		counts[spot]++
	}
	return few
}

// Any two rules broken together: the first one decides. A change may undo another one, or break a third rule; what the
// told rules say then is asked for.
func TestPromise18FirstRuleDecides(t *testing.T) {
	r := rand.New(rand.NewSource(223))
	for count := 1; count <= impl.MaxChain; count++ {
		base := goodCase(count)
		few := fewChanges(r, chainChanges(base), 4)
		decided := map[[2]int64]int{}
		for i, first := range few {
			for _, second := range few[i+1:] {
				got := checkChainTold(t, "two rules broken", base.with(first, second))
				low, high := min(first.rule, second.rule), max(first.rule, second.rule)
				if got.Code == low {
					decided[[2]int64{low, high}]++
				}
			}
		}
		for _, low := range rulesOf(count) {
			for _, high := range rulesOf(count) {
				if low < high && decided[[2]int64{low, high}] == 0 {
					t.Errorf("%d certificates: rule %d never decides ahead of rule %d", count, low, high)
				}
			}
		}
	}
}

func TestPromise18ManyRulesAtOnce(t *testing.T) {
	r := rand.New(rand.NewSource(224))
	codes := map[int64]int{}
	for count := 1; count <= impl.MaxChain; count++ {
		base := goodCase(count)
		changes := chainChanges(base)
		for range 700 {
			// Without the low rules the high ones come up more often.
			lowest := 1 + r.Int63n(chainRulesCount)
			high := slices.DeleteFunc(slices.Clone(changes), func(one chainChange) bool { return one.rule < lowest })
			var some []chainChange
			for range r.Intn(5) {
				some = append(some, high[r.Intn(len(high))])
			}
			codes[checkChainTold(t, "many rules broken", base.with(some...)).Code]++
		}
	}
	for code := range int64(chainRulesCount + 1) {
		if codes[code] < 10 {
			t.Errorf("the code %d came up %d times", code, codes[code])
		}
	}
}

// addedRoots puts so many more roots in any places: of other names, of the right name with other keys, or the right one.
func addedRoots(r *rand.Rand, roots []impl.Root, count int) []impl.Root {
	roots = cloneRoots(roots)
	for range count {
		root := impl.Root{Subject: []string{"Root", "Another", "Leaf", "", "Authority 1"}[r.Intn(5)], Key: randomList(r, []int{0, 31, 32, 33, 64}[r.Intn(5)])}
		if r.Intn(2) == 0 {
			root.Key = libraryPublic(seedNumber(r.Intn(20)))
		}
		roots = slices.Insert(roots, r.Intn(len(roots)+1), root)
	}
	return roots
}

// A good chain stays good with more roots, up to MaxRoots.
func TestPromise18MoreRoots(t *testing.T) {
	r := rand.New(rand.NewSource(225))
	for count := 1; count <= impl.MaxChain; count++ {
		base := goodCase(count)
		base.roots = base.roots[1:]
		for more := 0; more <= 15; more++ {
			for range 4 {
				c := base.clone()
				c.roots = addedRoots(r, base.roots, more)
				checkChain(t, "more roots", c, 0, 0)
			}
		}
		for _, more := range []int{16, 17, 50, 255, 256} {
			c := base.clone()
			c.roots = addedRoots(r, base.roots, more)
			checkChain(t, "too many roots", c, 1, 0)
		}
	}
}
