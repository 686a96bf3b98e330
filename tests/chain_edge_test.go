package tests

import (
	"math"
	"math/big"
	"slices"
	"testing"

	"loop.example/g00004/impl"
)

// The edges that chapter 12 names of the rules of a chain.

func TestChainFaultCounts(t *testing.T) {
	for count := 1; count <= impl.MaxChain; count++ {
		checkChain(t, "as many as there may be", goodCase(count), 0, 0)
	}
	for _, count := range []int{impl.MaxChain + 1, impl.MaxChain + 2, 9} {
		checkChain(t, "too many", goodCase(count), 1, 0)
	}
	none := goodCase(1)
	for _, roots := range [][]impl.Root{nil, none.roots, manyRoots(16), manyRoots(17)} {
		checkChain(t, "none", chainCase{roots: roots, w: none.w}, 1, 0)
		checkChain(t, "none", chainCase{chain: []impl.Cert{}, roots: roots, w: none.w}, 1, 0)
	}
	many := chainCase{chain: slices.Repeat(none.chain, 300), roots: none.roots, w: none.w}
	checkChain(t, "300", many, 1, 0)
	many.chain = many.chain[:260]
	checkChain(t, "260", many, 1, 0)
	checkChain(t, "zero values", chainCase{chain: make([]impl.Cert, 4), roots: make([]impl.Root, 16)}, 2, 0)
	checkChain(t, "zero values", chainCase{chain: make([]impl.Cert, 5), roots: make([]impl.Root, 16)}, 1, 0)
	checkChain(t, "zero values", chainCase{chain: make([]impl.Cert, 4), roots: make([]impl.Root, 17)}, 1, 0)
}

func TestChainFaultRootCounts(t *testing.T) {
	for count := 1; count <= impl.MaxChain; count++ {
		base := goodCase(count)
		right := base.roots[1]
		for _, roots := range []int{1, 2, 15, 16} {
			for at := range roots {
				base.roots = manyRoots(roots)
				base.roots[at] = right
				checkChain(t, "the right root among others", base, 0, 0)
			}
		}
		for _, roots := range []int{0, 1, 15, 16} {
			base.roots = manyRoots(roots)
			checkChain(t, "no right root", base, 5, int64(count)-1)
		}
		for _, roots := range []int{17, 18, 32, 272} {
			base.roots = manyRoots(roots)
			base.roots[0] = right
			checkChain(t, "too many roots", base, 1, 0)
		}
	}
}

// Roots of one name with different keys: one of them is enough, wherever it stands.
func TestChainFaultRootsOfOneName(t *testing.T) {
	for count := 1; count <= impl.MaxChain; count++ {
		base := goodCase(count)
		right := base.roots[1]
		for _, roots := range []int{2, 3, 16} {
			wrong := manyRoots(roots)
			for i := range wrong {
				wrong[i].Subject = "Root"
			}
			base.roots = wrong
			checkChain(t, "the name alone", base, 11, int64(count)-1)
			for _, at := range []int{0, 1, roots - 1} {
				base.roots = slices.Clone(wrong)
				base.roots[at] = right
				checkChain(t, "one key of them", base, 0, 0)
				// The right key under another name is no help.
				base.roots[at].Subject = "Root x"
				checkChain(t, "the key under another name", base, 11, int64(count)-1)
			}
			base.roots = slices.Repeat([]impl.Root{right}, roots)
			checkChain(t, "the same root", base, 0, 0)
		}
	}
}

// A root's key is its own: the keys of the chain and of other places do not do.
func TestChainFaultKeysOfOthers(t *testing.T) {
	for count := 1; count <= impl.MaxChain; count++ {
		base := goodCase(count)
		for _, cert := range base.chain {
			base.roots = []impl.Root{{Subject: "Root", Key: cert.Key}}
			checkChain(t, "a key of the chain", base, 11, int64(count)-1)
		}
	}
	// Signed by a root, but not by the one ahead of it in the chain.
	for at := range impl.MaxChain - 1 {
		c := goodCase(impl.MaxChain)
		c.chain[at] = libraryIssue(c.chain[at], c.seeds[impl.MaxChain])
		c.roots = append(c.roots, impl.Root{Subject: c.chain[at].Issuer, Key: c.roots[1].Key})
		checkChain(t, "signed by a root in the middle", c, 11, int64(at))
	}
}

func TestChainFaultTimes(t *testing.T) {
	for count := 1; count <= impl.MaxChain; count++ {
		for at := range count {
			base := goodCase(count)
			base.chain[at].From, base.chain[at].Until = 2000, 3000
			base = base.signed()
			for now, code := range map[int64]int64{1999: 3, 2000: 0, 2001: 0, 2999: 0, 3000: 0, 3001: 3} {
				base.w.Now = now
				place := int64(at)
				if code == 0 {
					place = 0
				}
				checkChain(t, "at the ends of its time", base, code, place)
			}
			base.chain[at].From, base.chain[at].Until = 2500, 2500
			base = base.signed()
			base.w.Now = 2500
			checkChain(t, "one second", base, 0, 0)
		}
		base := goodCase(count)
		for at := range base.chain {
			base.chain[at].From, base.chain[at].Until = 0, impl.MaxTime
		}
		base = base.signed()
		for now, code := range map[int64]int64{0: 0, impl.MaxTime: 0, -1: 3, impl.MaxTime + 1: 3, math.MinInt64: 3, math.MaxInt64: 3, 1 << 40: 3} {
			base.w.Now = now
			checkChain(t, "at the ends of all time", base, code, 0)
		}
	}
}

func TestChainFaultPathLimits(t *testing.T) {
	for count := 2; count <= impl.MaxChain; count++ {
		for at := 1; at < count; at++ {
			for limit := int64(-1); limit <= impl.MaxPathLimit; limit++ {
				c := goodCase(count)
				c.chain[at].PathLimit = limit
				c = c.signed()
				// -1 is none, also where it is i - 2.
				if limit == -1 || limit >= int64(at)-1 {
					checkChain(t, "enough", c, 0, 0)
				} else {
					checkChain(t, "too little", c, 7, int64(at))
				}
			}
		}
	}
}

// An authority may be the leaf: its own limit and areas play no part then.
func TestChainFaultAuthorityAsLeaf(t *testing.T) {
	for count := 1; count <= impl.MaxChain; count++ {
		for _, limit := range []int64{-1, 0, 16} {
			c := goodCase(count)
			leaf := &c.chain[0]
			leaf.Authority, leaf.Uses, leaf.PathLimit = true, 7, limit
			leaf.Permitted, leaf.Excluded = []string{"elsewhere"}, []string{"shop.example"}
			c = c.signed()
			for use := int64(1); use <= 7; use++ {
				c.w.Use = use
				checkChain(t, "an authority as a leaf", c, 0, 0)
			}
		}
	}
}

func TestChainFaultUses(t *testing.T) {
	for count := 1; count <= 2; count++ {
		for uses := int64(1); uses <= 7; uses++ {
			c := goodCase(count)
			c.chain[0].Uses, c.chain[0].Authority = uses, uses >= 4
			c = c.signed()
			for use := int64(-9); use <= 17; use++ {
				c.w.Use = use
				code := int64(8)
				if use >= 1 && use <= 7 && use&^uses == 0 {
					code = 0
				}
				checkChain(t, "uses", c, code, 0)
			}
			for _, use := range slices.Concat(strangeNumbers(), []int64{uses + 8, uses - 8, uses + 1<<32, uses + math.MinInt64}) {
				c.w.Use = use
				checkChain(t, "strange uses", c, 8, 0)
			}
		}
	}
}

// What the authorities are good for beside issuing plays no part.
func TestChainFaultUsesOfAuthorities(t *testing.T) {
	for uses := int64(4); uses <= 7; uses++ {
		c := goodCase(3)
		c.chain[1].Uses, c.chain[2].Uses = uses, uses^3
		c = c.signed()
		for _, use := range []int64{1, 2, 3} {
			c.w.Use = use
			checkChain(t, "uses of authorities", c, 0, 0)
		}
	}
}

func TestChainFaultHosts(t *testing.T) {
	c := goodCase(2)
	for host, code := range map[string]int64{"shop.example": 0, "www.shop.example": 0, "x.shop.example": 0, "bad.example": 9, "example": 9, "": 9,
		"a.b.shop.example": 9, "*.shop.example": 9, ".shop.example": 9, "Shop.example": 9, "shop.example.": 9} {
		c.w.Host = host
		checkChain(t, "host", c, code, 0)
	}
	// Sixteen of them, each asked for.
	c.chain[0].Hosts = countedNames(impl.MaxHosts)
	c = c.signed()
	for _, host := range countedNames(impl.MaxHosts) {
		c.w.Host = host
		checkChain(t, "one of sixteen", c, 0, 0)
	}
	c.w.Host = countedNames(impl.MaxHosts + 1)[impl.MaxHosts]
	checkChain(t, "none of sixteen", c, 9, 0)
	// Hosts of authorities are for themselves alone.
	c = goodCase(2)
	c.chain[1].Hosts = []string{"mail.example"}
	c = c.signed()
	c.w.Host = "mail.example"
	checkChain(t, "a host of the authority", c, 9, 0)
}

// A pattern outside decides wherever it stands among the leaf's, though the host is matched by another one.
func TestChainFaultAreas(t *testing.T) {
	for count := 2; count <= impl.MaxChain; count++ {
		for at := 1; at < count; at++ {
			for i := range impl.MaxHosts {
				c := goodCase(count)
				c.chain[0].Hosts = countedNames(impl.MaxHosts)
				c.w.Host = c.chain[0].Hosts[(i+5)%impl.MaxHosts]
				c.chain[at].Excluded = []string{c.chain[0].Hosts[i]}
				checkChain(t, "one host excluded", c.signed(), 10, int64(at))
				c.chain[at].Excluded = []string{"x." + c.chain[0].Hosts[i]}
				checkChain(t, "what is inside a host excluded", c.signed(), 0, 0)
				c.chain[at].Excluded = nil
				c.chain[at].Permitted = slices.Delete(countedNames(impl.MaxHosts), i, i+1)
				checkChain(t, "one host not permitted", c.signed(), 10, int64(at))
				c.chain[at].Permitted = countedNames(impl.MaxHosts)
				checkChain(t, "all hosts permitted", c.signed(), 0, 0)
			}
		}
	}
}

// A chain may have one certificate twice, and one that issued itself.
func TestChainFaultIssuedByItself(t *testing.T) {
	for count := 2; count <= impl.MaxChain; count++ {
		c := goodCase(count)
		for at := 1; at < count; at++ {
			cert := chainAuthority(impl.MaxChain)
			cert.Subject, cert.Issuer, cert.Key = "Root", "Root", libraryPublic(c.seeds[count])
			c.chain[at], c.seeds[at] = cert, c.seeds[count]
		}
		c.chain[0].Issuer = "Root"
		c = c.signed()
		checkChain(t, "issued by itself", c, 0, 0)
		c.w.Host = "elsewhere"
		checkChain(t, "issued by itself", c, 9, 0)
	}
}

// By a key that is one of the eight small points a signature might hold for any message; Verify refuses it.
func TestChainFaultSmallKeys(t *testing.T) {
	factor := big.NewInt(12345)
	forged := append(bigBase(t).times(factor).form(), lowBytes(factor)...)
	for _, key := range smallForms(t) {
		c := goodCase(2)
		c.chain[1].Key = key
		c = c.signed()
		c.chain[0].Signature = forged
		if got := impl.ChainFault(c.chain, c.roots, c.w); got != (impl.ChainAnswer{Code: 11}) {
			t.Errorf("an authority with the key %x: got %v", key, got)
		}
		c = goodCase(2)
		c.roots = []impl.Root{{Subject: "Root", Key: key}}
		c.chain[1].Signature = forged
		if got := impl.ChainFault(c.chain, c.roots, c.w); got != (impl.ChainAnswer{Code: 11, Place: 1}) {
			t.Errorf("a root with the key %x: got %v", key, got)
		}
	}
}

// A root has no more than a name and a key, and both may be anything.
func TestChainFaultStrangeRoots(t *testing.T) {
	c := goodCase(1)
	right := c.roots[1]
	for _, title := range wrongTitles() {
		c.roots = []impl.Root{{Subject: title, Key: right.Key}}
		checkChain(t, "a strange name alone", c, 5, 0)
		c.roots = []impl.Root{{Subject: title, Key: right.Key}, right}
		checkChain(t, "a strange name", c, 0, 0)
	}
	for n := range 70 {
		c.roots = []impl.Root{{Subject: "Root", Key: full(n)}}
		checkChain(t, "a strange key alone", c, 11, 0)
		c.roots = []impl.Root{{Subject: "Root", Key: full(n)}, right}
		checkChain(t, "a strange key", c, 0, 0)
	}
}
