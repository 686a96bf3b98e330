package tests

import (
	"bytes"
	"math/rand"
	"slices"
	"testing"

	"loop.example/g00004/impl"
)

// Promise 6 up to the keys: two ends that exchange their public keys have the same secrets and keys.

const updates = 3

// keyEnd is what one end has of its own, and the public key that came from the other one.
type keyEnd struct {
	seed  []byte
	psk   []byte
	other []byte
}

// madeKeys are all secrets and keys of an end, one behind the other: handshake, master, and of both sides the keys ahead
// of the first update and behind each.
type madeKeys struct {
	handshake []byte
	master    []byte
	secrets   [][]byte
	keys      []impl.Keys
}

func (e keyEnd) make(t *testing.T, transcript []byte) madeKeys {
	t.Helper()
	shared := impl.LadderShared(e.seed, e.other)
	if !shared.Good {
		t.Fatalf("an end with %x and %x shares nothing", e.seed, e.other)
	}
	handshake := impl.HandshakeSecret(impl.EarlySecret(e.psk), shared.Key)
	made := madeKeys{handshake: handshake, master: impl.MasterSecret(handshake)}
	for _, label := range []string{"client hs", "server hs"} {
		made.goOn(impl.Derive(made.handshake, label, transcript))
	}
	for _, label := range []string{"client data", "server data"} {
		made.goOn(impl.Derive(made.master, label, transcript))
	}
	return made
}

func (m *madeKeys) goOn(secret []byte) {
	for range updates + 1 {
		m.secrets = append(m.secrets, secret)
		m.keys = append(m.keys, impl.TrafficKeys(secret))
		secret = impl.NextSecret(secret)
	}
}

// lists are all that was made, so that two can be held against each other.
func (m madeKeys) lists() [][]byte {
	all := append([][]byte{m.handshake, m.master}, m.secrets...)
	for _, keys := range m.keys {
		all = append(all, keys.Key, keys.Iv)
	}
	return all
}

// libraryEnd makes the same by the library's curve and sums.
func libraryEnd(t *testing.T, e keyEnd, transcript []byte) madeKeys {
	t.Helper()
	handshake := libraryHandshake(libraryEarly(e.psk), libraryLadder(t, e.seed, e.other))
	made := madeKeys{handshake: handshake, master: libraryMaster(handshake)}
	for i, label := range []string{"client hs", "server hs", "client data", "server data"} {
		secret := libraryLabel([][]byte{made.handshake, made.master}[i/2], label, transcript, 32)
		for range updates + 1 {
			keys := libraryKeyAndIv([][]byte{secret})
			made.secrets = append(made.secrets, secret)
			made.keys = append(made.keys, impl.Keys{Key: keys[0], Iv: keys[1]})
			secret = libraryNext(secret)
		}
	}
	return made
}

func bothEnds(one []byte, other []byte, psk []byte) (keyEnd, keyEnd) {
	return keyEnd{one, bytes.Clone(psk), impl.LadderPublic(other)}, keyEnd{other, bytes.Clone(psk), impl.LadderPublic(one)}
}

// checkSame asks that both ends have made the same, of the sizes that keys have, and nothing twice.
func checkSame(t *testing.T, client madeKeys, server madeKeys) {
	t.Helper()
	mine, theirs := client.lists(), server.lists()
	if !sameLists(mine, theirs) {
		t.Errorf("the ends have %x and %x", mine, theirs)
	}
	for i, list := range mine {
		if len(list) != 32 && len(list) != 12 {
			t.Errorf("list %d has %d bytes", i, len(list))
		}
		if slices.ContainsFunc(mine[:i], func(one []byte) bool { return bytes.Equal(one, list) }) {
			t.Errorf("%x is there twice", list)
		}
	}
	if len(mine) != 2+3*4*(updates+1) {
		t.Errorf("%d lists", len(mine))
	}
}

func endSeeds(r *rand.Rand) [][]byte {
	seeds := [][]byte{make([]byte, 32), full(32), upwards(32), lowNumber(9)}
	for range 6 {
		seeds = append(seeds, randomList(r, 32))
	}
	return seeds
}

func endPsks(r *rand.Rand) [][]byte {
	return [][]byte{nil, {}, thirtyTwoZeros(), full(32), upwards(32), randomList(r, 32)}
}

func TestPromise6SameKeys(t *testing.T) {
	r := rand.New(rand.NewSource(270))
	for _, one := range endSeeds(r) {
		for _, other := range endSeeds(r) {
			for _, psk := range endPsks(r) {
				client, server := bothEnds(one, other, psk)
				transcript := randomList(r, 32)
				checkSame(t, client.make(t, transcript), server.make(t, transcript))
			}
		}
	}
}

func TestPromise6SameKeysOfKeysAtEdges(t *testing.T) {
	r := rand.New(rand.NewSource(271))
	keys := ladderKeys()
	for _, one := range keys {
		client, server := bothEnds(one, keys[r.Intn(len(keys))], endPsks(r)[r.Intn(6)])
		checkSame(t, client.make(t, impl.Hash(one)), server.make(t, impl.Hash(one)))
	}
}

func TestPromise6AsLibrary(t *testing.T) {
	r := rand.New(rand.NewSource(272))
	for range 60 {
		for _, psk := range endPsks(r) {
			client, server := bothEnds(randomElement(r), randomElement(r), psk)
			transcript := randomList(r, 32)
			checkSame(t, client.make(t, transcript), libraryEnd(t, server, transcript))
			checkSame(t, libraryEnd(t, client, transcript), server.make(t, transcript))
		}
	}
}

// With another seed, another psk or another transcript nothing that hangs on it is the same.
func TestPromise6OtherEnds(t *testing.T) {
	r := rand.New(rand.NewSource(273))
	for range 40 {
		seed, other, psk, transcript := randomList(r, 32), randomList(r, 32), randomList(r, 32), randomList(r, 32)
		client, server := bothEnds(seed, other, psk)
		mine := client.make(t, transcript)
		for _, wrong := range []keyEnd{
			{withBit(server.seed, 77), server.psk, server.other},
			{server.seed, withBit(server.psk, r.Intn(256)), server.other},
			{server.seed, nil, server.other},
			{server.seed, server.psk, impl.LadderPublic(randomList(r, 32))},
		} {
			checkNoneSame(t, mine.lists(), wrong.make(t, transcript).lists())
		}
		late := server.make(t, withBit(transcript, r.Intn(256)))
		checkList(t, "handshake", late.handshake, mine.handshake)
		checkList(t, "master", late.master, mine.master)
		checkNoneSame(t, mine.lists()[2:], late.lists()[2:])
	}
}

func checkNoneSame(t *testing.T, mine [][]byte, theirs [][]byte) {
	t.Helper()
	for _, list := range mine {
		if slices.ContainsFunc(theirs, func(one []byte) bool { return bytes.Equal(one, list) }) {
			t.Errorf("%x is made by both", list)
		}
	}
}

// Of a public key of which nothing is left there is no secret either.
func TestPromise6NothingShared(t *testing.T) {
	r := rand.New(rand.NewSource(274))
	for _, lost := range lostCoordinates(t) {
		shared := impl.LadderShared(randomList(r, 32), lost)
		handshake := impl.HandshakeSecret(impl.EarlySecret(nil), shared.Key)
		master := impl.MasterSecret(handshake)
		keys := impl.TrafficKeys(impl.NextSecret(master))
		for _, list := range [][]byte{shared.Key, handshake, master, keys.Key, keys.Iv} {
			checkList(t, "made of nothing", list, nil, lost)
		}
	}
}

// What one end seals, the other one opens, with the keys of its side and of the same update alone.
func TestPromise6KeysOpen(t *testing.T) {
	r := rand.New(rand.NewSource(275))
	for _, psk := range endPsks(r) {
		client, server := bothEnds(randomList(r, 32), randomList(r, 32), psk)
		transcript := randomList(r, 32)
		mine, theirs := client.make(t, transcript), server.make(t, transcript)
		for i, keys := range mine.keys {
			sealed := impl.Seal(keys.Key, keys.Iv, nil, []byte("text"))
			for j, others := range theirs.keys {
				if opened := impl.Open(others.Key, others.Iv, nil, sealed); opened.Good != (i == j) {
					t.Errorf("sealed by keys %d, asked with keys %d: good %v", i, j, opened.Good)
				}
			}
		}
	}
}
