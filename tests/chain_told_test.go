package tests

import (
	"bytes"
	"crypto/ed25519"
	"fmt"
	"slices"
	"strings"
	"sync"
	"testing"

	"loop.example/g00004/impl"
)

// The eleven rules of chapter 12 done another way, and the chains that its tests ask for. Signatures are the library's.

// chainRulesCount is the number of the last rule.
const chainRulesCount = 11

// librarySeen keeps what the library said of a signature: the same links are asked for again and again, by several tests at
// once.
var (
	librarySeen = map[string]bool{}
	libraryLock sync.Mutex
)

func librarySigned(c impl.Cert, key []byte) bool {
	if len(key) != ed25519.PublicKeySize {
		return false
	}
	message := signedBytes(c)
	link := string(key) + string(c.Signature) + string(message)
	libraryLock.Lock()
	defer libraryLock.Unlock()
	good, seen := librarySeen[link]
	if !seen {
		good = ed25519.Verify(key, message, c.Signature)
		librarySeen[link] = good
	}
	return good
}

// keysAbove are the keys of whoever has the name that the certificate at a place gives as its issuer: of the next one
// alone, or of the roots.
func keysAbove(chain []impl.Cert, at int, roots []impl.Root) [][]byte {
	if at+1 < len(chain) {
		return [][]byte{chain[at+1].Key}
	}
	var keys [][]byte
	for _, root := range roots {
		if strings.Compare(root.Subject, chain[at].Issuer) == 0 {
			keys = append(keys, root.Key)
		}
	}
	return keys
}

func toldUsable(uses int64, use int64) bool {
	for _, bit := range []int64{1, 2, 4} {
		if use/bit%2 == 1 && uses/bit%2 == 0 {
			return false
		}
	}
	return use > 0 && use < 8
}

// toldHolds asks a rule from 2 on at any place; where it does not speak of one, it holds.
func toldHolds(rule int, at int, chain []impl.Cert, roots []impl.Root, w impl.Wanted) bool {
	c, leaf, last := chain[at], at == 0, at == len(chain)-1
	switch rule {
	case 2:
		return toldCertFault(c) == 0
	case 3:
		return !(w.Now < c.From) && !(w.Now > c.Until)
	case 4:
		return last || c.Issuer == chain[at+1].Subject
	case 5:
		return !last || len(keysAbove(chain, at, roots)) > 0
	case 6:
		return leaf || c.Authority
	case 7:
		return leaf || c.PathLimit < 0 || c.PathLimit+1 >= int64(at)
	case 8:
		return !leaf || toldUsable(c.Uses, w.Use)
	case 9:
		return !leaf || slices.ContainsFunc(c.Hosts, func(pattern string) bool { return toldMatches(pattern, w.Host) })
	case 10:
		return leaf || !slices.ContainsFunc(chain[0].Hosts, func(pattern string) bool { return toldOutside(pattern, c.Permitted, c.Excluded) })
	}
	return slices.ContainsFunc(keysAbove(chain, at, roots), func(key []byte) bool { return librarySigned(c, key) })
}

func toldSizes(chain []impl.Cert, roots []impl.Root) bool {
	return len(chain) > 0 && len(chain) < 5 && len(roots) < 17
}

func toldChain(chain []impl.Cert, roots []impl.Root, w impl.Wanted) impl.ChainAnswer {
	if !toldSizes(chain, roots) {
		return impl.ChainAnswer{Code: 1}
	}
	for rule := 2; rule <= chainRulesCount; rule++ {
		for at := range chain {
			if !toldHolds(rule, at, chain, roots, w) {
				return impl.ChainAnswer{Code: int64(rule), Place: int64(at)}
			}
		}
	}
	return impl.ChainAnswer{}
}

// toldGood asks the same rules, those that cost least first: whether all hold does not hang on their order.
func toldGood(chain []impl.Cert, roots []impl.Root, w impl.Wanted) bool {
	if !toldSizes(chain, roots) {
		return false
	}
	for _, rule := range []int{4, 5, 6, 7, 3, 8, 2, 9, 10, 11} {
		for at := range chain {
			if !toldHolds(rule, at, chain, roots, w) {
				return false
			}
		}
	}
	return true
}

func seedNumber(n int) []byte {
	return slices.Concat([]byte("seed"), bytes.Repeat([]byte{byte(n)}, 28))
}

func libraryPublic(seed []byte) []byte {
	return bytes.Clone(ed25519.NewKeyFromSeed(seed)[32:])
}

// libraryIssue signs a certificate whether it is well-formed or not.
func libraryIssue(c impl.Cert, seed []byte) impl.Cert {
	c = cloneCert(c)
	c.Signature = ed25519.Sign(ed25519.NewKeyFromSeed(seed), signedBytes(c))
	return c
}

// chainCase is a chain with all that it is asked with. The seed at a place is that of the certificate's key; the last
// seed is that of the root.
type chainCase struct {
	chain []impl.Cert
	seeds [][]byte
	roots []impl.Root
	w     impl.Wanted
}

func cloneCerts(certs []impl.Cert) []impl.Cert {
	var clones []impl.Cert
	for _, c := range certs {
		clones = append(clones, cloneCert(c))
	}
	return clones
}

func cloneRoots(roots []impl.Root) []impl.Root {
	var clones []impl.Root
	for _, root := range roots {
		clones = append(clones, impl.Root{Subject: root.Subject, Key: bytes.Clone(root.Key)})
	}
	return clones
}

func (c chainCase) clone() chainCase {
	return chainCase{chain: cloneCerts(c.chain), seeds: cloneLists(c.seeds), roots: cloneRoots(c.roots), w: c.w}
}

// signed has all signatures made anew.
func (c chainCase) signed() chainCase {
	c = c.clone()
	for i := range c.chain {
		c.chain[i] = libraryIssue(c.chain[i], c.seeds[i+1])
	}
	return c
}

func (c chainCase) last() *impl.Cert {
	return &c.chain[len(c.chain)-1]
}

func (c chainCase) inShort() string {
	var parts []string
	for i, cert := range c.chain {
		parts = append(parts, fmt.Sprintf("%d: %s", i, certInShort(cert)))
	}
	for _, root := range c.roots {
		parts = append(parts, fmt.Sprintf("root %q with %d bytes", root.Subject, len(root.Key)))
	}
	return fmt.Sprintf("%s; wanted %q, %d, %d", strings.Join(parts, "; "), c.w.Host, c.w.Now, c.w.Use)
}

// titleAt names those of a chain of so many; the one behind the last is the root.
func titleAt(at int, count int) string {
	switch at {
	case 0:
		return "Leaf"
	case count:
		return "Root"
	}
	return "Authority " + digitsOf(at, 1)
}

func chainLeaf() impl.Cert {
	return impl.Cert{Serial: []byte{1, 2}, Subject: "Leaf", From: 1000, Until: 9000, Hosts: []string{"*.shop.example", "shop.example"}, PathLimit: -1, Uses: 3}
}

// chainAuthority has the least limit that its place allows.
func chainAuthority(at int) impl.Cert {
	return impl.Cert{Serial: []byte{7, byte(at)}, From: int64(at), Until: impl.MaxTime - int64(at), Authority: true, PathLimit: int64(at) - 1, Uses: 4,
		Permitted: []string{"example", "local"}, Excluded: []string{"bad.example", "worse.shop.local"}}
}

// goodCase is a chain of so many certificates without a fault, if there may be so many.
func goodCase(count int) chainCase {
	c := chainCase{w: impl.Wanted{Host: "www.shop.example", Now: 5000, Use: 1}}
	for at := range count + 1 {
		c.seeds = append(c.seeds, seedNumber(at))
	}
	for at := range count {
		cert := chainLeaf()
		if at > 0 {
			cert = chainAuthority(at)
		}
		cert.Subject, cert.Issuer, cert.Key = titleAt(at, count), titleAt(at+1, count), libraryPublic(c.seeds[at])
		c.chain = append(c.chain, cert)
	}
	c.roots = []impl.Root{{Subject: "Another", Key: libraryPublic(seedNumber(99))}, {Subject: "Root", Key: libraryPublic(c.seeds[count])}}
	return c.signed()
}

// checkChain holds the program and the told rules to one answer.
func checkChain(t *testing.T, what string, c chainCase, code int64, place int64) {
	t.Helper()
	want := impl.ChainAnswer{Code: code, Place: place}
	got, told := impl.ChainFault(c.chain, c.roots, c.w), toldChain(c.chain, c.roots, c.w)
	if got != want || told != want {
		t.Errorf("%s: got %v, want %v, told %v: %s", what, got, want, told, c.inShort())
	}
}

// checkChainTold holds the program to the told rules alone.
func checkChainTold(t *testing.T, what string, c chainCase) impl.ChainAnswer {
	t.Helper()
	want := toldChain(c.chain, c.roots, c.w)
	checkChain(t, what, c, want.Code, want.Place)
	if good := toldGood(c.chain, c.roots, c.w); good != (want.Code == 0) {
		t.Errorf("%s: told good %v, and the fault %d", what, good, want.Code)
	}
	return want
}
