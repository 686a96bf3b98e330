package tests

import (
	"bytes"
	"math/rand"
	"slices"
	"testing"

	"loop.example/g00004/impl"
)

// What chapter 14 says of each function, of the lengths of its arguments, and of what is made of one secret.

func TestScheduleTold(t *testing.T) {
	r := rand.New(rand.NewSource(260))
	for _, c := range scheduleCalls() {
		for range 500 {
			if c.check(t, c.argumentsOf(r)...) {
				t.Fatalf("%s: arguments of the right lengths count as others", c.name)
			}
		}
	}
}

func TestScheduleEdges(t *testing.T) {
	r := rand.New(rand.NewSource(261))
	for _, c := range scheduleCalls() {
		for _, first := range secretEdges(r) {
			for _, second := range secretEdges(r) {
				c.check(t, [][]byte{first, second}[:len(c.takes)]...)
			}
			c.check(t, [][]byte{first, first}[:len(c.takes)]...)
		}
	}
}

// The first is a published one; the others were made by another program, each going on from the one above it.
func TestScheduleKnownAnswers(t *testing.T) {
	checkList(t, "early of nothing", impl.EarlySecret(nil), fromHex(t, "33ad0a1c607ec03b09e6cd9893680ce210adf300aa1f2660e1b22e10f170f92a"))
	early := impl.EarlySecret(full(32))
	handshake := impl.HandshakeSecret(early, upwards(32))
	master := impl.MasterSecret(handshake)
	next := impl.NextSecret(master)
	keys := impl.TrafficKeys(next)
	for _, known := range []struct {
		what string
		got  []byte
		want string
	}{
		{"early", early, "ce9ca061301c497175e5bf602699dde29786967f3c1d5740e2bdeed39ea62617"},
		{"handshake", handshake, "8873b6fb4da0a73ce542015382b37217aa03f661d103f5190719e77f760d0725"},
		{"master", master, "3989198facca3fe765e8eccefd53c39a6957c349bf99e74144e13357b011680e"},
		{"next", next, "121b7a644c85d82c2ec33a2af326fd09a75213da230fb2fce99d3b5f281e4a20"},
		{"key", keys.Key, "46c5d708dff943703cbd12c03ee664a00e76048f16a63af9a562eaa41f6a05c2"},
		{"iv", keys.Iv, "63801093bfa0605b4d62bf77"},
		{"finished", impl.FinishedMac(next, master), "0ae09d26db66a485a6a1a9c0437a461ee25b1482468e5d6e9d4f44b7a1ffb9de"},
		{"ticket", impl.TicketSecret(next, handshake), "cabeef1a70a1ee9a57052639b8078e1735644de183462db4f73131cbd1ae68be"},
		{"binder", impl.BinderMac(impl.TicketSecret(next, handshake), []byte("some head")), "b32d0d0d5db59c64b81cabd7760c0e7dd504098e8d57c74b600363baf1e76d99"},
		{"binder of nothing", impl.BinderMac(nil, nil), "37bc61b0e1f458e2e133e8bf9d364fc414c2a9a0c3ccb63423f3622a3cfa15a1"},
	} {
		checkList(t, known.what, known.got, fromHex(t, known.want))
	}
}

// Each bit of each argument counts.
func TestScheduleEachBit(t *testing.T) {
	r := rand.New(rand.NewSource(262))
	for _, c := range scheduleCalls() {
		args := [][]byte{randomList(r, 32), randomList(r, 32)}[:len(c.takes)]
		seen := c.call(args)
		for place := range args {
			for bit := range 256 {
				changed := slices.Clone(args)
				changed[place] = withBit(args[place], bit)
				c.check(t, changed...)
				for _, list := range c.call(changed) {
					if slices.ContainsFunc(seen, func(one []byte) bool { return bytes.Equal(one, list) }) {
						t.Errorf("%s: bit %d of argument %d makes what was made without it", c.name, bit, place)
					}
					seen = append(seen, list)
				}
			}
		}
	}
}

// namedLengths are the ones that the arguments are asked at, the right one among them.
func namedLengths() []int {
	return []int{0, 1, 31, 32, 33, 64}
}

// Each argument of another length alone, and with others.
func TestScheduleOtherLengths(t *testing.T) {
	r := rand.New(rand.NewSource(263))
	for _, c := range scheduleCalls() {
		refused, taken := 0, 0
		for _, first := range namedLengths() {
			for _, second := range namedLengths() {
				for _, list := range []func(n int) []byte{upwards, full, func(n int) []byte { return make([]byte, n) }, func(n int) []byte { return randomList(r, n) }} {
					if c.check(t, [][]byte{list(first), list(second)}[:len(c.takes)]...) {
						refused++
					} else {
						taken++
					}
				}
			}
		}
		if refused < 90 || taken < 4 {
			t.Errorf("%s: %d refused and %d taken", c.name, refused, taken)
		}
	}
}

func TestScheduleEveryLength(t *testing.T) {
	r := rand.New(rand.NewSource(264))
	lengths := []int{255, 256, 257, 287, 288, 4096, 65536, 65568, 100000}
	for n := range 200 {
		lengths = append(lengths, n)
	}
	for _, c := range scheduleCalls() {
		for _, n := range lengths {
			for place := range c.takes {
				args := c.argumentsOf(r)
				args[place] = randomList(r, n)
				c.check(t, args...)
			}
		}
	}
}

// The answer at another length is the whole zero value.
func TestTrafficKeysOtherLengths(t *testing.T) {
	r := rand.New(rand.NewSource(265))
	for _, secret := range listsNotOf32(r) {
		if keys := impl.TrafficKeys(secret); len(keys.Key) != 0 || len(keys.Iv) != 0 {
			t.Errorf("keys of %x: got %x and %x", secret, keys.Key, keys.Iv)
		}
	}
}

func TestTrafficKeysSizes(t *testing.T) {
	r := rand.New(rand.NewSource(266))
	for _, secret := range secretEdges(r) {
		keys := impl.TrafficKeys(secret)
		if len(keys.Key) != 32 || len(keys.Iv) != 12 {
			t.Errorf("keys of %x: %d and %d bytes", secret, len(keys.Key), len(keys.Iv))
		}
		// As the length is a part of what a key is made of, the one is no beginning of another.
		if bytes.HasPrefix(keys.Key, keys.Iv) {
			t.Errorf("keys of %x: %x begins with %x", secret, keys.Key, keys.Iv)
		}
		sealed := impl.Seal(keys.Key, keys.Iv, nil, secret)
		if opened := impl.Open(keys.Key, keys.Iv, nil, sealed); !opened.Good || !bytes.Equal(opened.Plain, secret) {
			t.Errorf("keys of %x do not open what they sealed", secret)
		}
	}
}

// An empty psk is 32 bytes 0, and no other list of zeros is.
func TestScheduleWithoutPsk(t *testing.T) {
	r := rand.New(rand.NewSource(267))
	early := impl.EarlySecret(thirtyTwoZeros())
	if len(early) != 32 {
		t.Fatalf("an early secret of %d bytes", len(early))
	}
	for _, nothing := range [][]byte{nil, {}, full(8)[:0], randomList(r, 32)[:0]} {
		checkList(t, "early", impl.EarlySecret(nothing), early)
		for _, n := range []int{0, 1, 32, 500} {
			head := randomList(r, n)
			checkList(t, "binder", impl.BinderMac(nothing, head), impl.BinderMac(thirtyTwoZeros(), head), head)
		}
	}
	for n := 1; n < 100; n++ {
		if n == 32 {
			continue
		}
		checkList(t, "early", impl.EarlySecret(make([]byte, n)), nil)
		checkList(t, "binder", impl.BinderMac(make([]byte, n), upwards(5)), nil)
	}
}

// An empty list stands for 32 bytes 0 nowhere else.
func TestScheduleEmptySecrets(t *testing.T) {
	for _, c := range scheduleCalls() {
		for place, kind := range c.takes {
			args := [][]byte{upwards(32), full(32)}[:len(c.takes)]
			args[place] = []byte{}
			if c.check(t, args...) != (kind == 's') {
				t.Errorf("%s: argument %d is empty", c.name, place)
			}
		}
	}
}

// Nothing that is made of one secret is another thing made of it, or the secret itself.
func TestScheduleLabelsApart(t *testing.T) {
	r := rand.New(rand.NewSource(268))
	for _, secret := range secretEdges(r) {
		seen, input := [][]byte{secret}, randomList(r, 32)
		for _, c := range scheduleCalls() {
			for _, list := range c.call([][]byte{secret, input}[:len(c.takes)]) {
				if slices.ContainsFunc(seen, func(one []byte) bool { return bytes.HasPrefix(one, list) }) {
					t.Errorf("%s of %x: %x is made twice", c.name, secret, list)
				}
				seen = append(seen, list)
			}
		}
	}
}

// The two arguments have places of their own.
func TestScheduleArgumentsInOrder(t *testing.T) {
	r := rand.New(rand.NewSource(269))
	for _, c := range scheduleCalls() {
		if len(c.takes) < 2 {
			continue
		}
		for range 50 {
			one, other := randomList(r, 32), randomList(r, 32)
			if sameLists(c.call([][]byte{one, other}), c.call([][]byte{other, one})) {
				t.Errorf("%s of %x and %x is the same turned round", c.name, one, other)
			}
		}
	}
}
