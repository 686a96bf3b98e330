package tests

import (
	"cmp"
	"fmt"
	"math/rand"
	"slices"
	"strings"
	"testing"

	"loop.example/g00004/impl"
)

// What chapter 12 says of finding a chain, and promise 19.

// poolCase is a leaf with all that a chain for it is looked for with.
type poolCase struct {
	leaf  impl.Cert
	pool  []impl.Cert
	roots []impl.Root
	w     impl.Wanted
}

func (c poolCase) chain(places []int64) []impl.Cert {
	chain := []impl.Cert{c.leaf}
	for _, place := range places {
		chain = append(chain, c.pool[place])
	}
	return chain
}

func (c poolCase) inShort() string {
	parts := []string{"leaf: " + certInShort(c.leaf)}
	for i, cert := range c.pool {
		parts = append(parts, fmt.Sprintf("%d: %s", i, certInShort(cert)))
	}
	return fmt.Sprintf("%s; %d roots; wanted %q, %d, %d", strings.Join(parts, "; "), len(c.roots), c.w.Host, c.w.Now, c.w.Use)
}

// allPlaces are all lists of different places out of so many, the shortest first, those of one length in their order. A
// list of MaxChain places breaks rule 1, whatever stands there; longer ones do so too, and are left out.
func allPlaces(count int) [][]int64 {
	lists := [][]int64{nil}
	for done := 0; done < len(lists); done++ {
		for place := count - 1; place >= 0 && len(lists[done]) < impl.MaxChain; place-- {
			if !slices.Contains(lists[done], int64(place)) {
				lists = append(lists, append(slices.Clone(lists[done]), int64(place)))
			}
		}
	}
	slices.SortFunc(lists, func(a []int64, b []int64) int { return cmp.Or(cmp.Compare(len(a), len(b)), slices.Compare(a, b)) })
	return lists
}

// placesKept are the lists of every pool's size, since there are many of them.
var placesKept = map[int][][]int64{}

func listsOfPlaces(count int) [][]int64 {
	if placesKept[count] == nil {
		placesKept[count] = allPlaces(count)
	}
	return placesKept[count]
}

// toldWays are all lists of places that make a chain without a fault.
func toldWays(c poolCase) [][]int64 {
	var ways [][]int64
	if len(c.pool) > 8 {
		return nil
	}
	for _, places := range listsOfPlaces(len(c.pool)) {
		if toldGood(c.chain(places), c.roots, c.w) {
			ways = append(ways, places)
		}
	}
	return ways
}

// checkWay wants just this list of places; checkNoWay wants none.
func checkWay(t *testing.T, what string, c poolCase, want ...int64) {
	t.Helper()
	ways := toldWays(c)
	if len(ways) == 0 || !slices.Equal(ways[0], want) {
		t.Errorf("%s: told %v, want %v: %s", what, ways, want, c.inShort())
	}
	got := impl.BuildChain(c.leaf, c.pool, c.roots, c.w)
	if !got.Good || !slices.Equal(got.Places, want) {
		t.Errorf("%s: got %v, want %v: %s", what, got, want, c.inShort())
	}
	if answer := impl.ChainFault(c.chain(want), c.roots, c.w); answer != (impl.ChainAnswer{}) {
		t.Errorf("%s: the chain has the fault %v: %s", what, answer, c.inShort())
	}
}

func checkNoWay(t *testing.T, what string, c poolCase) {
	t.Helper()
	if ways := toldWays(c); len(ways) != 0 {
		t.Errorf("%s: told %v, want none: %s", what, ways, c.inShort())
	}
	if got := impl.BuildChain(c.leaf, c.pool, c.roots, c.w); got.Good || len(got.Places) != 0 {
		t.Errorf("%s: got %v, want none: %s", what, got, c.inShort())
	}
}

// checkToldWay wants what the search through all lists finds first, and answers how many it finds.
func checkToldWay(t *testing.T, what string, c poolCase) [][]int64 {
	t.Helper()
	ways := toldWays(c)
	if len(ways) == 0 {
		checkNoWay(t, what, c)
	} else {
		checkWay(t, what, c, ways[0]...)
	}
	return ways
}

// poolOf has the certificates of a good chain in a pool, in their order.
func poolOf(c chainCase) poolCase {
	return poolCase{leaf: c.chain[0], pool: c.chain[1:], roots: c.roots, w: c.w}
}

// strangers are certificates that no chain of goodCase needs.
func strangers(count int) []impl.Cert {
	r := rand.New(rand.NewSource(226))
	certs := []impl.Cert{{}, plainLeaf(), plainAuthority()}
	for len(certs) < count {
		certs = append(certs, randomCert(r, true))
	}
	return certs[:count]
}

// A search that takes the lists in their order is right only if they are in order.
func TestToldPlaces(t *testing.T) {
	for count, want := range []int{1, 2, 5, 16, 65, 206, 517, 1100, 2081} {
		lists := allPlaces(count)
		if len(lists) != want {
			t.Errorf("%d places: %d lists, want %d", count, len(lists), want)
		}
	}
	if got, want := fmt.Sprint(allPlaces(3)[:11]), "[[] [0] [1] [2] [0 1] [0 2] [1 0] [1 2] [2 0] [2 1] [0 1 2]]"; got != want {
		t.Errorf("got %s, want %s", got, want)
	}
}

func TestBuildChainOfTheLeafAlone(t *testing.T) {
	c := poolOf(goodCase(1))
	for _, count := range []int{0, 1, 7, impl.MaxPool} {
		c.pool = strangers(count)
		checkWay(t, "the leaf alone", c)
		c.pool = make([]impl.Cert, count)
		checkWay(t, "the leaf alone, with zero values", c)
		c.pool = slices.Repeat([]impl.Cert{c.leaf}, count)
		checkWay(t, "the leaf alone, with itself", c)
	}
	for _, count := range []int{impl.MaxPool + 1, impl.MaxPool + 2, 16, 256, 264, 1000} {
		c.pool = make([]impl.Cert, count)
		checkNoWay(t, "too many", c)
	}
	c.pool = strangers(impl.MaxPool + 1)
	checkNoWay(t, "one too many", c)
}

// The certificates that are needed at all places of a pool of MaxPool.
func TestBuildChainAtEveryPlace(t *testing.T) {
	for count := 1; count <= impl.MaxChain; count++ {
		c := poolOf(goodCase(count))
		needed := c.pool
		for _, places := range listsOfPlaces(impl.MaxPool) {
			if len(places) != len(needed) {
				continue
			}
			c.pool = strangers(impl.MaxPool)
			for i, place := range places {
				c.pool[place] = needed[i]
			}
			checkWay(t, "at these places", c, places...)
		}
	}
}

func TestBuildChainTooLarge(t *testing.T) {
	for count := 1; count <= impl.MaxChain; count++ {
		c := poolOf(goodCase(count))
		needed := c.pool
		for _, size := range []int{impl.MaxPool + 1, impl.MaxPool + 5, 300} {
			c.pool = append(slices.Clone(needed), make([]impl.Cert, size-len(needed))...)
			checkNoWay(t, "a pool that is too large", c)
		}
	}
}

// No list is longer than a chain may be.
func TestBuildChainTooLong(t *testing.T) {
	for _, count := range []int{impl.MaxChain + 1, impl.MaxChain + 2, impl.MaxPool + 1} {
		whole := goodCase(count)
		c := poolOf(whole)
		checkNoWay(t, "a chain that is too long", c)
		// The third authority, issued by the root too, makes it short enough.
		short := whole.chain[3]
		short.Issuer = "Root"
		c.pool = slices.Insert(slices.Clone(c.pool), 0, libraryIssue(short, whole.seeds[count]))
		if len(c.pool) <= impl.MaxPool {
			checkWay(t, "a shorter way", c, 1, 2, 0)
		}
	}
}

func TestBuildChainSameTwice(t *testing.T) {
	c := poolOf(goodCase(2))
	between := c.pool[0]
	for count := 1; count <= impl.MaxPool; count++ {
		for at := range count {
			c.pool = slices.Concat(strangers(at), slices.Repeat([]impl.Cert{between}, count-at))
			checkWay(t, "the same again and again", c, int64(at))
		}
	}
	c = poolOf(goodCase(3))
	first, second := c.pool[0], c.pool[1]
	for _, row := range []struct {
		pool []impl.Cert
		want []int64
	}{
		{[]impl.Cert{first, first, second, second}, []int64{0, 2}},
		{[]impl.Cert{second, second, first, first}, []int64{2, 0}},
		{[]impl.Cert{second, first, second, first}, []int64{1, 0}},
		{[]impl.Cert{first, second, first, second, first, second, first, second}, []int64{0, 1}},
		{[]impl.Cert{{}, second, second, second, second, second, second, first}, []int64{7, 1}},
	} {
		c.pool = row.pool
		checkWay(t, "both twice", c, row.want...)
	}
	for _, alone := range []impl.Cert{first, second, c.leaf} {
		c.pool = slices.Repeat([]impl.Cert{alone}, impl.MaxPool)
		checkNoWay(t, "one of two alone", c)
	}
}

func TestBuildChainLeafInThePool(t *testing.T) {
	for count := 1; count <= impl.MaxChain; count++ {
		c := poolOf(goodCase(count))
		needed := c.pool
		c.pool = slices.Concat([]impl.Cert{c.leaf}, needed, []impl.Cert{c.leaf})
		var want []int64
		for i := range needed {
			want = append(want, int64(i)+1)
		}
		checkWay(t, "the leaf in the pool", c, want...)
	}
	// A leaf that issued itself, and is an authority, may stand behind itself, but that never helps.
	self := goodCase(1)
	leaf := &self.chain[0]
	leaf.Subject, leaf.Issuer, leaf.Authority, leaf.Uses, leaf.PathLimit = "Self", "Self", true, 7, -1
	self.seeds[1], self.roots = self.seeds[0], []impl.Root{{Subject: "Self", Key: leaf.Key}}
	self = self.signed()
	c := poolOf(self)
	c.pool = slices.Repeat([]impl.Cert{c.leaf}, impl.MaxPool)
	checkWay(t, "a leaf that issued itself", c)
	c.roots = []impl.Root{{Subject: "Self", Key: libraryPublic(seedNumber(50))}}
	checkNoWay(t, "a leaf that issued itself without its root", c)
}

// crossing is an authority of one name and key, issued by another name.
func crossing(subject string, key int, issuer string, by int) impl.Cert {
	cert := chainAuthority(1)
	cert.Subject, cert.Key, cert.Issuer, cert.PathLimit = subject, libraryPublic(seedNumber(key)), issuer, -1
	return libraryIssue(cert, seedNumber(by))
}

// crossedCase has a leaf that A issued; A has the key 1, B 2, C 3, D 4, and the root 9.
func crossedCase(pool ...impl.Cert) poolCase {
	leaf := chainLeaf()
	leaf.Key, leaf.Issuer = libraryPublic(seedNumber(0)), "A"
	return poolCase{leaf: libraryIssue(leaf, seedNumber(1)), pool: pool, roots: []impl.Root{{Subject: "Root", Key: libraryPublic(seedNumber(9))}},
		w: impl.Wanted{Host: "www.shop.example", Now: 5000, Use: 1}}
}

func TestBuildChainSeveralWays(t *testing.T) {
	aByRoot, aByB, aByC := crossing("A", 1, "Root", 9), crossing("A", 1, "B", 2), crossing("A", 1, "C", 3)
	bByRoot, cByRoot, cByB, bByC := crossing("B", 2, "Root", 9), crossing("C", 3, "Root", 9), crossing("C", 3, "B", 2), crossing("B", 2, "C", 3)
	for _, row := range []struct {
		what string
		pool []impl.Cert
		want []int64
	}{
		{"the shorter one behind", []impl.Cert{aByB, bByRoot, aByRoot}, []int64{2}},
		{"the shorter one in front", []impl.Cert{aByRoot, aByB, bByRoot}, []int64{0}},
		{"three lengths", []impl.Cert{aByC, cByB, bByRoot, aByB, aByRoot}, []int64{4}},
		{"two lengths", []impl.Cert{aByC, cByB, bByRoot, aByB}, []int64{3, 2}},
		{"one length: the first place decides", []impl.Cert{aByB, aByC, cByRoot, bByRoot}, []int64{0, 3}},
		{"one length: the first place decides, turned", []impl.Cert{bByRoot, aByC, aByB, cByRoot}, []int64{1, 3}},
		{"one length: the second place decides", []impl.Cert{bByRoot, bByRoot, aByB}, []int64{2, 0}},
		{"one length: the third place decides", []impl.Cert{bByRoot, cByB, aByC, bByRoot}, []int64{2, 1, 0}},
		{"one length of three", []impl.Cert{bByC, cByB, aByB, cByRoot, aByC}, []int64{4, 3}},
		{"around", []impl.Cert{aByB, bByC, cByB, cByRoot}, []int64{0, 1, 3}},
	} {
		checkWay(t, row.what, crossedCase(row.pool...), row.want...)
	}
}

// A way that comes first is passed over if anything at all is wrong with it.
func TestBuildChainPassesOverFaults(t *testing.T) {
	aByB, bByRoot := crossing("A", 1, "B", 2), crossing("B", 2, "Root", 9)
	for i, change := range []func(c *impl.Cert){
		func(c *impl.Cert) { c.Until = 4999 },
		func(c *impl.Cert) { c.From = 5001 },
		func(c *impl.Cert) { authorityLost(c, 3) },
		func(c *impl.Cert) { c.Permitted = []string{"elsewhere"} },
		func(c *impl.Cert) { c.Excluded = []string{"x.shop.example"} },
		func(c *impl.Cert) { c.Key = libraryPublic(seedNumber(77)) },
		func(c *impl.Cert) { c.Serial = nil },
		func(c *impl.Cert) { c.Uses = 3 },
		func(c *impl.Cert) { c.Subject = "b" },
		func(c *impl.Cert) { c.Issuer = "root" },
	} {
		badB, badA := cloneCert(bByRoot), cloneCert(aByB)
		change(&badB)
		change(&badA)
		badB, badA = libraryIssue(badB, seedNumber(9)), libraryIssue(badA, seedNumber(2))
		what := fmt.Sprintf("change %d", i)
		checkWay(t, what, crossedCase(badA, badB, aByB, bByRoot), 2, 3)
		checkWay(t, what, crossedCase(aByB, badB, badA, bByRoot), 0, 3)
		checkNoWay(t, what, crossedCase(badA, bByRoot))
		checkNoWay(t, what, crossedCase(aByB, badB))
	}
	spoilt := cloneCert(bByRoot)
	spoilt.Signature = withBit(spoilt.Signature, 7)
	checkWay(t, "a spoilt signature", crossedCase(aByB, spoilt, bByRoot), 0, 2)
	checkNoWay(t, "a spoilt signature", crossedCase(aByB, spoilt))
	limited := cloneCert(bByRoot)
	limited.PathLimit = 0
	limited = libraryIssue(limited, seedNumber(9))
	checkWay(t, "a limit", crossedCase(aByB, limited, bByRoot), 0, 2)
	checkNoWay(t, "a limit", crossedCase(aByB, limited))
}

// A limit may rule out the shorter of two ways.
func TestBuildChainLongerByLimit(t *testing.T) {
	aByB, aByC, cByD, dByRoot := crossing("A", 1, "B", 2), crossing("A", 1, "C", 3), crossing("C", 3, "D", 4), crossing("D", 4, "Root", 9)
	limited := crossing("B", 2, "Root", 9)
	checkWay(t, "without a limit", crossedCase(aByB, aByC, cByD, dByRoot, limited), 0, 4)
	limited.PathLimit = 0
	limited = libraryIssue(limited, seedNumber(9))
	checkWay(t, "with a limit", crossedCase(aByB, aByC, cByD, dByRoot, limited), 1, 2, 3)
}

func TestBuildChainRings(t *testing.T) {
	aByB, bByA, bByC, cByA := crossing("A", 1, "B", 2), crossing("B", 2, "A", 1), crossing("B", 2, "C", 3), crossing("C", 3, "A", 1)
	aByA, bByRoot, cByRoot := crossing("A", 1, "A", 1), crossing("B", 2, "Root", 9), crossing("C", 3, "Root", 9)
	checkNoWay(t, "a ring of two", crossedCase(aByB, bByA))
	checkNoWay(t, "a ring of two, again and again", crossedCase(slices.Repeat([]impl.Cert{aByB, bByA}, 4)...))
	checkNoWay(t, "a ring of three", crossedCase(aByB, bByC, cByA, aByB, bByC, cByA))
	checkNoWay(t, "a ring of one", crossedCase(slices.Repeat([]impl.Cert{aByA}, 8)...))
	checkWay(t, "out of a ring of two", crossedCase(aByB, bByA, bByRoot), 0, 2)
	checkWay(t, "out of a ring of three", crossedCase(cByA, bByC, aByB, cByRoot), 2, 1, 3)
	checkWay(t, "out of a ring of one", crossedCase(aByA, aByA, aByB, bByRoot), 2, 3)
	ring := crossedCase(slices.Repeat([]impl.Cert{aByA}, 8)...)
	ring.roots = []impl.Root{{Subject: "A", Key: libraryPublic(seedNumber(9))}}
	checkNoWay(t, "a ring under a root of its name", ring)
	ring.roots = append(ring.roots, impl.Root{Subject: "A", Key: libraryPublic(seedNumber(1))})
	checkWay(t, "the leaf under a root of the ring's key", ring)
}

// As many lists as there can be, each with as many keys to ask: this ends soon too.
func TestBuildChainMostWork(t *testing.T) {
	var pool []impl.Cert
	for i := range impl.MaxPool {
		cert := chainAuthority(impl.MaxChain)
		cert.Serial, cert.Subject, cert.Issuer, cert.Key = []byte{byte(i) + 1}, "A", "A", libraryPublic(seedNumber(1))
		pool = append(pool, libraryIssue(cert, seedNumber(1)))
	}
	c := crossedCase(pool...)
	c.roots = manyRoots(impl.MaxRoots)
	for i := range c.roots {
		c.roots[i].Subject = "A"
	}
	checkNoWay(t, "the most work", c)
	c.roots[impl.MaxRoots-1].Key = libraryPublic(seedNumber(1))
	checkWay(t, "the most work", c)
	c.pool[6] = libraryIssue(c.pool[6], seedNumber(9))
	c.roots[impl.MaxRoots-1].Key = libraryPublic(seedNumber(9))
	checkWay(t, "the most work", c, 6)
}

func TestBuildChainRoots(t *testing.T) {
	for count := 1; count <= impl.MaxChain; count++ {
		c := poolOf(goodCase(count))
		right := c.roots[1]
		var want []int64
		for i := range c.pool {
			want = append(want, int64(i))
		}
		c.roots = append(manyRoots(15), right)
		checkWay(t, "sixteen roots", c, want...)
		c.roots = append(manyRoots(16), right)
		checkNoWay(t, "seventeen roots", c)
		c.roots = nil
		checkNoWay(t, "no roots", c)
		c.roots = manyRoots(16)
		checkNoWay(t, "other roots", c)
		c.roots = []impl.Root{{Subject: right.Subject, Key: libraryPublic(seedNumber(50))}}
		checkNoWay(t, "another key", c)
	}
}

// What is wrong with the leaf, or with what is wanted, no pool mends.
func TestBuildChainWrongLeaf(t *testing.T) {
	for count := 1; count <= 3; count++ {
		base := goodCase(count)
		for _, one := range chainChanges(base) {
			if one.place == 0 && (one.rule != 4 && one.rule != 11 || count == 1) && one.rule != 1 {
				checkNoWay(t, "a wrong leaf", poolOf(base.with(one)))
			}
		}
	}
	checkNoWay(t, "nothing at all", poolCase{})
	checkNoWay(t, "zero values", poolCase{pool: make([]impl.Cert, 8), roots: make([]impl.Root, 16)})
}

const stockTitles = "ABCR"

// stockSeed is the first or the second seed of a name.
func stockSeed(title byte, which int) []byte {
	return seedNumber(int(title) + 100*which)
}

func mostly(r *rand.Rand, one int, other int) int {
	if r.Intn(10) > 0 {
		return one
	}
	return other
}

// stockCert is issued by any name, or now and then has something wrong with it.
func stockCert(r *rand.Rand, base impl.Cert, title byte) impl.Cert {
	issuer := stockTitles[r.Intn(len(stockTitles))]
	cert := base
	cert.Serial, cert.Subject, cert.Issuer = append(randomList(r, 6), 1), string(title), string(issuer)
	cert.Serial[0] |= 1
	cert.Key = libraryPublic(stockSeed(title, mostly(r, 0, 1)))
	switch r.Intn(40) {
	case 0:
		cert.Until = 4000
	case 1:
		cert.Serial = nil
	case 2:
		cert.Hosts = []string{"elsewhere.example"}
	}
	if cert.Authority {
		cert.PathLimit = max(int64(r.Intn(6))-3, -1)
		if r.Intn(20) == 0 {
			cert.Permitted = []string{"elsewhere"}
		}
		if r.Intn(20) == 0 {
			authorityLost(&cert, 3)
		}
	}
	return libraryIssue(cert, stockSeed(issuer, mostly(r, 0, 1)))
}

// stockCase takes a pool out of the stock, with certificates that stand in it twice, and the leaf now and then.
func stockCase(r *rand.Rand, leaves []impl.Cert, authorities []impl.Cert) poolCase {
	c := poolCase{leaf: leaves[r.Intn(len(leaves))], w: impl.Wanted{Host: "www.shop.example", Now: 5000, Use: 1}}
	for range max(r.Intn(impl.MaxPool+1), r.Intn(impl.MaxPool+1)) {
		cert := authorities[r.Intn(len(authorities))]
		if len(c.pool) > 0 && r.Intn(8) == 0 {
			cert = c.pool[r.Intn(len(c.pool))]
		}
		if r.Intn(30) == 0 {
			cert = c.leaf
		}
		c.pool = append(c.pool, cert)
	}
	for _, root := range []struct {
		title byte
		which int
		often int
	}{{'R', 0, 9}, {'R', 1, 5}, {'A', 0, 1}, {'A', 1, 1}} {
		if r.Intn(10) < root.often {
			c.roots = append(c.roots, impl.Root{Subject: string(root.title), Key: libraryPublic(stockSeed(root.title, root.which))})
		}
	}
	return c
}

// isShortcut leaves only the way from A over B and C to the root, if it is taken away.
func isShortcut(c impl.Cert) bool {
	return c.Issuer == "R" && c.Subject != "C" || c.Issuer == "C" && c.Subject != "B" || c.Issuer == "B" && c.Subject == "L"
}

func TestPromise19Search(t *testing.T) {
	r := rand.New(rand.NewSource(227))
	var leaves, authorities []impl.Cert
	for i := range 160 {
		authorities = append(authorities, stockCert(r, chainAuthority(1), stockTitles[i%3]))
		leaves = append(leaves, stockCert(r, chainLeaf(), 'L'))
	}
	found, several, none, longer := map[int]int{}, 0, 0, 0
	farLeaves, farAuthorities := slices.DeleteFunc(slices.Clone(leaves), isShortcut), slices.DeleteFunc(slices.Clone(authorities), isShortcut)
	for i := range 1500 {
		c := stockCase(r, leaves, authorities)
		if i%3 == 0 {
			c = stockCase(r, farLeaves, farAuthorities)
		}
		ways := checkToldWay(t, "out of the stock", c)
		if len(ways) == 0 {
			none++
			continue
		}
		found[len(ways[0])]++
		if len(ways) > 1 {
			several++
		}
		if len(ways[len(ways)-1]) > len(ways[0]) {
			longer++
		}
	}
	for places := range impl.MaxChain {
		if found[places] < 10 {
			t.Errorf("%d places were found %d times", places, found[places])
		}
	}
	if none < 100 || several < 100 || longer < 100 {
		t.Errorf("none %d times, several %d times, several lengths %d times", none, several, longer)
	}
}

// Lists out of a pool that are no chain at all, or nearly one, have the fault that is told.
func TestPromise18ListsOfAPool(t *testing.T) {
	r := rand.New(rand.NewSource(228))
	var certs []impl.Cert
	for i := range 60 {
		certs = append(certs, stockCert(r, chainAuthority(1), stockTitles[i%3]), stockCert(r, chainLeaf(), 'L'))
	}
	for range 3000 {
		c := chainCase{roots: []impl.Root{{Subject: "R", Key: libraryPublic(stockSeed('R', r.Intn(2)))}}, w: impl.Wanted{Host: "www.shop.example", Now: 5000, Use: 1}}
		for range r.Intn(impl.MaxChain + 2) {
			c.chain = append(c.chain, certs[r.Intn(len(certs))])
		}
		checkChainTold(t, "any certificates", c)
	}
}
