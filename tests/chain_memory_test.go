package tests

import (
	"bytes"
	"math/rand"
	"slices"
	"testing"

	"loop.example/g00004/impl"
)

// The general rules 2 to 4 of chapter 12: certificates, roots and areas come in lists, with room behind them.

// guardedCerts is a list with known certificates ahead of it and in the room behind it, each of them guarded itself.
type guardedCerts struct {
	list   []impl.Cert
	whole  []impl.Cert
	before []impl.Cert
	guards []guardedCert
}

func guardCerts(certs []impl.Cert) guardedCerts {
	var g guardedCerts
	for _, c := range slices.Concat(plainCerts(), certs, plainCerts()) {
		guarded := guardCert(c)
		g.guards = append(g.guards, guarded)
		g.whole = append(g.whole, guarded.cert)
	}
	g.list, g.before = g.whole[2:2+len(certs)], cloneCerts(g.whole)
	return g
}

func (g guardedCerts) changed() bool {
	return slices.ContainsFunc(g.guards, guardedCert.changed) || !slices.EqualFunc(g.whole, g.before, sameCert)
}

type guardedRoots struct {
	list   []impl.Root
	whole  []impl.Root
	before []impl.Root
	keys   []guardedList
}

func sameRoot(a impl.Root, b impl.Root) bool {
	return a.Subject == b.Subject && bytes.Equal(a.Key, b.Key)
}

func guardRoots(roots []impl.Root) guardedRoots {
	var g guardedRoots
	for _, root := range slices.Concat(manyRoots(2), roots, manyRoots(2)) {
		key := guard(root.Key)
		g.keys = append(g.keys, key)
		g.whole = append(g.whole, impl.Root{Subject: root.Subject, Key: key.list})
	}
	g.list, g.before = g.whole[2:2+len(roots)], cloneRoots(g.whole)
	return g
}

func (g guardedRoots) changed() bool {
	return anyChanged(g.keys) || !slices.EqualFunc(g.whole, g.before, sameRoot)
}

func checkOutsideMemory(t *testing.T, pattern string, permitted []string, excluded []string) {
	t.Helper()
	guards := []guardedTexts{guardTexts(permitted), guardTexts(excluded)}
	want := impl.PatternOutside(pattern, permitted, excluded)
	for range 2 {
		if got := impl.PatternOutside(pattern, guards[0].list, guards[1].list); got != want {
			t.Errorf("%q, permitted %q, excluded %q: with room behind the areas %v, else %v", pattern, permitted, excluded, got, want)
		}
		if slices.ContainsFunc(guards, guardedTexts.changed) {
			t.Errorf("%q, permitted %q, excluded %q: areas or the room behind them were changed", pattern, permitted, excluded)
		}
	}
}

func TestPatternOutsideMemory(t *testing.T) {
	areas := append(namesUpTo(2, "b", "a"), "", "*.a.b", "guard")
	r := rand.New(rand.NewSource(229))
	for _, pattern := range []string{"a.b", "*.a.b", "b", "guard", "*.b", "", "A"} {
		for range 60 {
			checkOutsideMemory(t, pattern, randomAreas(r, areas, 5), randomAreas(r, areas, 5))
		}
	}
	// Both lists may be one.
	one := guardTexts([]string{"b", "a.b", "a"})
	if !impl.PatternOutside("x.a.b", one.list, one.list) || one.changed() {
		t.Errorf("of one list for both %q is left", one.whole)
	}
}

func checkChainMemory(t *testing.T, c chainCase) {
	t.Helper()
	chain, roots := guardCerts(c.chain), guardRoots(c.roots)
	want := toldChain(c.chain, c.roots, c.w)
	for range 2 {
		if got := impl.ChainFault(chain.list, roots.list, c.w); got != want {
			t.Errorf("with room behind the lists: got %v, want %v: %s", got, want, c.inShort())
		}
		if chain.changed() || roots.changed() {
			t.Errorf("an argument or the room behind it was changed: %s", c.inShort())
		}
	}
}

func TestChainFaultMemory(t *testing.T) {
	r := rand.New(rand.NewSource(230))
	for count := 1; count <= impl.MaxChain; count++ {
		base := goodCase(count)
		checkChainMemory(t, base)
		for _, one := range fewChanges(r, chainChanges(base), 2) {
			checkChainMemory(t, base.with(one))
		}
	}
	checkChainMemory(t, chainCase{})
	checkChainMemory(t, goodCase(impl.MaxChain+1))
}

// The certificates and roots of one call may share their memory.
func TestChainFaultFromOneList(t *testing.T) {
	c := goodCase(2)
	key, names := guard(c.roots[1].Key), guardTexts([]string{"shop.example"})
	c.chain[0].Issuer, c.chain[1].Subject, c.chain[1].Issuer = "Root", "Root", "Root"
	c.chain[0].Hosts, c.chain[1].Permitted = names.list, names.list
	c.chain[1].Key, c.seeds[1] = key.list, c.seeds[2]
	c.w.Host = "shop.example"
	c = c.signed()
	// Signing has made copies.
	c.chain[0].Hosts, c.chain[1].Permitted = names.list, names.list
	c.chain[1].Key, c.roots[1].Key = key.list, key.list
	checkChain(t, "from one list", c, 0, 0)
	checkWay(t, "from one list", poolOf(c))
	if key.changed() || names.changed() {
		t.Errorf("a list that is shared was changed")
	}
}

func spoilPlaces(places []int64) {
	room := places[:cap(places)]
	for i := range room {
		room[i] ^= -1
	}
}

// checkBuiltMemory also asks for the answers of two calls to be apart.
func checkBuiltMemory(t *testing.T, c poolCase) {
	t.Helper()
	pool, roots, leaf := guardCerts(c.pool), guardRoots(c.roots), guardCert(c.leaf)
	ask := func() impl.Built {
		built := impl.BuildChain(leaf.cert, pool.list, roots.list, c.w)
		if pool.changed() || roots.changed() || leaf.changed() {
			t.Errorf("an argument or the room behind it was changed: %s", c.inShort())
		}
		return built
	}
	first, second := ask(), ask()
	good, want := first.Good, slices.Clone(first.Places)
	if ways := toldWays(c); good != (len(ways) > 0) || good && !slices.Equal(want, ways[0]) {
		t.Errorf("with room behind the lists: got %v, told %v: %s", first, ways, c.inShort())
	}
	spoilPlaces(first.Places)
	if second.Good != good || !slices.Equal(second.Places, want) {
		t.Errorf("two answers share memory: %s", c.inShort())
	}
	spoilPlaces(second.Places)
	if third := ask(); third.Good != good || !slices.Equal(third.Places, want) {
		t.Errorf("asked again: %v, ahead of that %v: %s", third, want, c.inShort())
	}
}

func TestBuildChainMemory(t *testing.T) {
	r := rand.New(rand.NewSource(231))
	for count := 1; count <= impl.MaxChain+1; count++ {
		base := goodCase(count)
		c := poolOf(base)
		checkBuiltMemory(t, c)
		slices.Reverse(c.pool)
		checkBuiltMemory(t, c)
		c.pool = append(slices.Clone(c.pool), strangers(impl.MaxPool-len(c.pool))...)
		checkBuiltMemory(t, c)
		c.pool = append(c.pool, impl.Cert{})
		checkBuiltMemory(t, c)
		for _, one := range fewChanges(r, chainChanges(base), 1) {
			if changed := base.with(one); len(changed.chain) > 0 {
				checkBuiltMemory(t, poolOf(changed))
			}
		}
	}
	checkBuiltMemory(t, poolCase{})
}
