package tests

import (
	"bytes"
	"crypto/ecdh"
	"crypto/hkdf"
	"crypto/hpke"
	"crypto/sha256"
	"math/big"
	"math/rand"
	"slices"
	"testing"

	"loop.example/g00004/impl"
)

// What chapter 8 says of sealing and opening.

// upToPiece moves the list's number up to a multiple of 16 bytes, by which zeros stand behind it.
func upToPiece(list []byte) []byte {
	n := (len(list) + 15) / 16 * 16
	return lowBytesOf(bigOfLow(list), n)
}

func toldLength(list []byte) []byte {
	return lowBytesOf(big.NewInt(int64(len(list))), 8)
}

func toldSealSum(key []byte, nonce []byte, extra []byte, text []byte) []byte {
	whole := slices.Concat(upToPiece(extra), upToPiece(text), toldLength(extra), toldLength(text))
	return toldOneTime(toldBlock(key, 0, nonce)[:32], whole)
}

func toldSeal(key []byte, nonce []byte, extra []byte, plain []byte) []byte {
	text := toldStream(key, 1, nonce, plain)
	return slices.Concat(text, toldSealSum(key, nonce, extra, text))
}

// sealing is a call of Seal: what Open is asked with, and the plain text.
type sealing struct {
	key   []byte
	nonce []byte
	extra []byte
	plain []byte
}

func (s sealing) seal() []byte {
	return impl.Seal(s.key, s.nonce, s.extra, s.plain)
}

func (s sealing) open(sealed []byte) impl.OpenResult {
	return impl.Open(s.key, s.nonce, s.extra, sealed)
}

// sealLengths end a piece or a block, stand beside their ends, or are some hundred.
func sealLengths() []int {
	return []int{0, 1, 15, 16, 17, 31, 32, 33, 63, 64, 65, 127, 128, 129, 300, 517}
}

// sealings have extra and plain texts of all lengths with each other.
func sealings(r *rand.Rand) []sealing {
	keys, nonces := cipherLists(r, impl.KeySize), cipherLists(r, impl.NonceSize)
	var all []sealing
	for _, n := range sealLengths() {
		for _, m := range sealLengths() {
			key, nonce := keys[r.Intn(len(keys))], nonces[r.Intn(len(nonces))]
			all = append(all,
				sealing{key, nonce, randomList(r, n), randomList(r, m)},
				sealing{randomList(r, 32), randomList(r, 12), make([]byte, n), make([]byte, m)},
				sealing{randomList(r, 32), randomList(r, 12), full(n), full(m)})
		}
	}
	return append(all, sealing{upwards(32), upwards(12), nil, nil})
}

func checkOpened(t *testing.T, s sealing, sealed []byte) {
	t.Helper()
	got := s.open(sealed)
	if !got.Good || !bytes.Equal(got.Plain, s.plain) {
		t.Errorf("key %x, nonce %x, extra %x: %x opened is %v %x, want %x", s.key, s.nonce, s.extra, sealed, got.Good, got.Plain, s.plain)
	}
}

func checkNotOpened(t *testing.T, what string, s sealing, sealed []byte) {
	t.Helper()
	if got := s.open(sealed); got.Good || len(got.Plain) != 0 {
		t.Errorf("%s: key %x, nonce %x, extra %x: %x opened is %v %x", what, s.key, s.nonce, s.extra, sealed, got.Good, got.Plain)
	}
}

// The sealed texts that were published with the make.
func TestSealPublished(t *testing.T) {
	text := "Ladies and Gentlemen of the class of '99: If I could offer you only one tip for the future, sunscreen would be it."
	s := sealing{
		key:   upwards(160)[128:],
		nonce: fromHex(t, "070000004041424344454647"),
		extra: fromHex(t, "50515253c0c1c2c3c4c5c6c7"),
		plain: []byte(text),
	}
	sealed := fromHex(t, "d31a8d34648e60db7b86afbc53ef7ec2a4aded51296e08fea9e2b5a736ee62d63dbea45e8ca9671282fafb69da92728b"+
		"1a71de0a9e060b2905d6a5b67ecd3b3692ddbd7f2d778b8c9803aee328091b58fab324e4fad675945585808b4831d7bc3ff4def08e4b7a9d"+
		"e576d26586cec64b6116"+"1ae10b594f09e26a7e902ecbd0600691")
	checkList(t, "sealed", s.seal(), sealed)
	checkOpened(t, s, sealed)
}

func TestSealTold(t *testing.T) {
	r := rand.New(rand.NewSource(110))
	for _, s := range sealings(r) {
		checkList(t, "sealed", s.seal(), toldSeal(s.key, s.nonce, s.extra, s.plain), s.key, s.nonce, s.extra, s.plain)
	}
	for n := range 200 {
		s := sealing{randomList(r, 32), randomList(r, 12), randomList(r, n), randomList(r, r.Intn(200))}
		checkList(t, "sealed", s.seal(), toldSeal(s.key, s.nonce, s.extra, s.plain), s.key, s.nonce, s.extra, s.plain)
		s = sealing{randomList(r, 32), randomList(r, 12), randomList(r, r.Intn(200)), randomList(r, n)}
		checkList(t, "sealed", s.seal(), toldSeal(s.key, s.nonce, s.extra, s.plain), s.key, s.nonce, s.extra, s.plain)
	}
}

// The parts of a sealed text, by the functions that make them.
func TestSealParts(t *testing.T) {
	r := rand.New(rand.NewSource(111))
	for _, s := range sealings(r) {
		text := impl.StreamXor(s.key, 1, s.nonce, s.plain)
		one := impl.StreamBlock(s.key, 0, s.nonce)[:32]
		whole := slices.Concat(upToPiece(s.extra), upToPiece(text), toldLength(s.extra), toldLength(text))
		checkList(t, "sealed", s.seal(), slices.Concat(text, impl.OneTime(one, whole)), s.key, s.nonce, s.extra, s.plain)
	}
}

func TestPromise13OpenOfSeal(t *testing.T) {
	r := rand.New(rand.NewSource(112))
	for _, s := range sealings(r) {
		sealed := s.seal()
		if len(sealed) != len(s.plain)+impl.SumSize {
			t.Errorf("%d bytes are sealed to %d", len(s.plain), len(sealed))
		}
		checkOpened(t, s, sealed)
	}
	for n := range 300 {
		s := sealing{randomList(r, 32), randomList(r, 12), randomList(r, r.Intn(300)), randomList(r, n)}
		checkOpened(t, s, s.seal())
	}
	for _, n := range []int{4096, 16384, 65537} {
		s := sealing{randomList(r, 32), randomList(r, 12), randomList(r, n), randomList(r, n)}
		checkOpened(t, s, s.seal())
	}
}

// checkSealAgain: where Open is good, Seal of what it gives is what was opened.
func checkSealAgain(t *testing.T, s sealing, sealed []byte) {
	t.Helper()
	got := s.open(sealed)
	if !got.Good {
		return
	}
	checkList(t, "sealed again", impl.Seal(s.key, s.nonce, s.extra, got.Plain), sealed, s.key, s.nonce, s.extra, got.Plain)
}

func TestPromise13SealOfOpen(t *testing.T) {
	r := rand.New(rand.NewSource(113))
	for _, s := range sealings(r) {
		sealed := toldSeal(s.key, s.nonce, s.extra, s.plain)
		checkOpened(t, s, sealed)
		checkSealAgain(t, s, sealed)
		// Any text with its sum behind it is opened.
		text := randomList(r, len(s.plain))
		sealed = slices.Concat(text, toldSealSum(s.key, s.nonce, s.extra, text))
		if got := s.open(sealed); !got.Good {
			t.Errorf("key %x, nonce %x, extra %x: %x is not opened", s.key, s.nonce, s.extra, sealed)
		}
		checkSealAgain(t, s, sealed)
		checkSealAgain(t, s, randomList(r, len(sealed)))
	}
}

func TestPromise13EachBitOfTheSum(t *testing.T) {
	r := rand.New(rand.NewSource(114))
	for _, s := range sealings(r) {
		sealed := s.seal()
		first := len(sealed) - impl.SumSize
		for i := range 8 * impl.SumSize {
			changed := bytes.Clone(sealed)
			changed[first+i/8] ^= 1 << (i % 8)
			checkNotOpened(t, "a bit of the sum", s, changed)
		}
	}
}

// Changes of more than a bit: each other byte at each place, and sums that have nothing to do with it.
func TestPromise13OtherSums(t *testing.T) {
	r := rand.New(rand.NewSource(115))
	for i, s := range sealings(r) {
		sealed := s.seal()
		text, sum := sealed[:len(s.plain)], sealed[len(s.plain):]
		others := [][]byte{make([]byte, 16), full(16), turned(sum), xored(sum, full(16)), slices.Concat(sum[1:], sum[:1]), randomList(r, 16)}
		for _, other := range others {
			if !bytes.Equal(other, sum) {
				checkNotOpened(t, "another sum", s, slices.Concat(text, other))
			}
		}
		if i%40 == 0 {
			checkOtherBytes(t, s, sealed)
		}
	}
}

func checkOtherBytes(t *testing.T, s sealing, sealed []byte) {
	t.Helper()
	for place := len(s.plain); place < len(sealed); place++ {
		for change := 1; change < 256; change++ {
			changed := bytes.Clone(sealed)
			changed[place] ^= byte(change)
			checkNotOpened(t, "a byte of the sum", s, changed)
		}
	}
}

// withBit turns one bit of a list.
func withBit(list []byte, i int) []byte {
	changed := bytes.Clone(list)
	changed[i/8] ^= 1 << (i % 8)
	return changed
}

// A bit of anything else is told too, if not by promise: at these inputs no sum comes again.
func TestOpenEachBitOfTheRest(t *testing.T) {
	r := rand.New(rand.NewSource(116))
	for _, n := range []int{1, 15, 16, 17, 64, 65, 100} {
		s := sealing{randomList(r, 32), randomList(r, 12), randomList(r, n), randomList(r, n)}
		sealed := s.seal()
		for i := range 8 * n {
			checkNotOpened(t, "a bit of the text", s, withBit(sealed, i))
			other := s
			other.extra = withBit(s.extra, i)
			checkNotOpened(t, "a bit of extra", other, sealed)
		}
		for i := range 8 * impl.KeySize {
			other := s
			other.key = withBit(s.key, i)
			checkNotOpened(t, "a bit of the key", other, sealed)
		}
		for i := range 8 * impl.NonceSize {
			other := s
			other.nonce = withBit(s.nonce, i)
			checkNotOpened(t, "a bit of the nonce", other, sealed)
		}
	}
}

// What is shorter than a sum is never good, not even the beginning or the end of one.
func TestOpenTooShort(t *testing.T) {
	r := rand.New(rand.NewSource(117))
	for range 20 {
		for _, extra := range [][]byte{nil, randomList(r, 5), randomList(r, 16)} {
			s := sealing{randomList(r, 32), randomList(r, 12), extra, nil}
			sum := s.seal()
			for n := range impl.SumSize {
				for _, short := range [][]byte{sum[:n], sum[impl.SumSize-n:], make([]byte, n), full(n), randomList(r, n)} {
					checkNotOpened(t, "too short", s, short)
				}
			}
			checkOpened(t, s, sum)
		}
	}
	checkNotOpened(t, "nothing", sealing{key: upwards(32), nonce: upwards(12)}, nil)
}

// Bytes that are lost, that come in, or that move between extra and text.
func TestOpenCutAndMoved(t *testing.T) {
	r := rand.New(rand.NewSource(118))
	for _, s := range sealings(r) {
		sealed := s.seal()
		for _, n := range []int{1, 2, 15, 16, 17} {
			if n <= len(sealed) {
				checkNotOpened(t, "cut at the end", s, sealed[:len(sealed)-n])
				checkNotOpened(t, "cut at the beginning", s, sealed[n:])
			}
			checkNotOpened(t, "more at the end", s, slices.Concat(sealed, make([]byte, n)))
			checkNotOpened(t, "more at the beginning", s, slices.Concat(make([]byte, n), sealed))
			text, sum := sealed[:len(s.plain)], sealed[len(s.plain):]
			checkNotOpened(t, "zeros behind the text", s, slices.Concat(text, make([]byte, n), sum))
			other := s
			other.extra = slices.Concat(s.extra, make([]byte, n))
			checkNotOpened(t, "zeros behind extra", other, sealed)
			if n <= len(text) {
				other.extra = slices.Concat(s.extra, text[:n])
				checkNotOpened(t, "moved to extra", other, sealed[n:])
			}
		}
	}
}

func TestSealWrongKeysAndNonces(t *testing.T) {
	r := rand.New(rand.NewSource(119))
	for _, pair := range keysAndNonces(r) {
		for _, n := range []int{0, 1, 16, 100} {
			s := sealing{pair[0], pair[1], randomList(r, n), randomList(r, n)}
			if got := s.seal(); len(got) != 0 {
				t.Errorf("sealed with %x and %x: %x", s.key, s.nonce, got)
			}
			checkNotOpened(t, "wrong key or nonce", s, nil)
			checkNotOpened(t, "wrong key or nonce", s, randomList(r, n))
			checkNotOpened(t, "wrong key or nonce", s, impl.Seal(upwards(32), upwards(12), s.extra, s.plain))
		}
	}
}

// A list of 32 or 12 bytes at the other place, or cut to it, is still a wrong one.
func TestOpenWithLongerKeyOrNonce(t *testing.T) {
	r := rand.New(rand.NewSource(120))
	for range 30 {
		s := sealing{randomList(r, 32), randomList(r, 12), randomList(r, 20), randomList(r, 20)}
		sealed := s.seal()
		for _, other := range []sealing{
			{append(bytes.Clone(s.key), 0), s.nonce, s.extra, s.plain},
			{s.key, append(bytes.Clone(s.nonce), 0), s.extra, s.plain},
			{s.key[:31], s.nonce, s.extra, s.plain},
			{s.key, s.nonce[:11], s.extra, s.plain},
			{s.nonce, s.key, s.extra, s.plain},
		} {
			checkNotOpened(t, "another length", other, sealed)
			if got := other.seal(); len(got) != 0 {
				t.Errorf("sealed with %x and %x: %x", other.key, other.nonce, got)
			}
		}
	}
}

func TestSealNilIsEmpty(t *testing.T) {
	key, nonce := upwards(32), upwards(12)
	sealed := impl.Seal(key, nonce, nil, nil)
	checkList(t, "sealed", impl.Seal(key, nonce, []byte{}, []byte{}), sealed)
	checkOpened(t, sealing{key, nonce, []byte{}, nil}, sealed)
	checkOpened(t, sealing{key, nonce, nil, []byte{}}, sealed)
}

func ofSeal(args [][]byte) [][]byte {
	return [][]byte{impl.Seal(args[0], args[1], args[2], args[3]), impl.Seal(args[0], args[1], args[2], args[3])}
}

func ofOpen(args [][]byte) [][]byte {
	return [][]byte{impl.Open(args[0], args[1], args[2], args[3]).Plain, impl.Open(args[0], args[1], args[2], args[3]).Plain}
}

func TestSealMemory(t *testing.T) {
	r := rand.New(rand.NewSource(121))
	for _, s := range sealings(r)[:200] {
		checkMemory(t, "seal", ofSeal, s.key, s.nonce, s.extra, s.plain)
		sealed := s.seal()
		checkMemory(t, "open", ofOpen, s.key, s.nonce, s.extra, sealed)
		checkMemory(t, "open", ofOpen, s.key, s.nonce, s.extra, withBit(sealed, 8*len(sealed)-1))
		checkMemory(t, "open", ofOpen, s.key, s.nonce, s.extra, sealed[:15])
		checkMemory(t, "open", ofOpen, s.key[:31], s.nonce, s.extra, sealed)
		checkMemory(t, "seal", ofSeal, s.key, s.nonce[:11], s.extra, s.plain)
	}
}

// Key, nonce, extra and plain text may be pieces of one room.
func TestSealOfOneRoom(t *testing.T) {
	room := upwards(200)
	before := bytes.Clone(room)
	for i := range 100 {
		s := sealing{room[i : i+32], room[i+5 : i+17], room[i : i+50], room[i+20 : i+100]}
		sealed := s.seal()
		checkList(t, "sealed", sealed, toldSeal(s.key, s.nonce, s.extra, s.plain), s.key, s.nonce, s.extra, s.plain)
		checkOpened(t, s, sealed)
		checkList(t, "room", room, before)
	}
}

// libraryKeys makes the key and the first nonce that the library's recipient has, by the library's sums.
type libraryKeys struct {
	suite string
}

func (k libraryKeys) extract(t *testing.T, salt []byte, label string, input []byte) []byte {
	t.Helper()
	made, err := hkdf.Extract(sha256.New, slices.Concat([]byte("HPKE-v1"+k.suite+label), input), salt)
	if err != nil {
		t.Fatal(err)
	}
	return made
}

func (k libraryKeys) expand(t *testing.T, key []byte, label string, info []byte, n int) []byte {
	t.Helper()
	head := string([]byte{0, byte(n)}) + "HPKE-v1" + k.suite + label
	return libraryExpand(t, key, slices.Concat([]byte(head), info), n)
}

func (k libraryKeys) keyAndNonce(t *testing.T, shared []byte, info []byte) ([]byte, []byte) {
	t.Helper()
	context := slices.Concat([]byte{0}, k.extract(t, nil, "psk_id_hash", nil), k.extract(t, nil, "info_hash", info))
	secret := k.extract(t, shared, "secret", nil)
	return k.expand(t, secret, "key", context, 32), k.expand(t, secret, "base_nonce", context, 12)
}

// libraryRecipient is an end of the library that opens with this cipher, with its key and its first nonce.
func libraryRecipient(t *testing.T, r *rand.Rand) (*hpke.Recipient, []byte, []byte) {
	t.Helper()
	mine, theirs, info := randomList(r, 32), randomList(r, 32), randomList(r, 20)
	sender, err := ecdh.X25519().NewPrivateKey(mine)
	if err != nil {
		t.Fatal(err)
	}
	key, err := ecdh.X25519().NewPrivateKey(theirs)
	if err != nil {
		t.Fatal(err)
	}
	private, err := hpke.NewDHKEMPrivateKey(key)
	if err != nil {
		t.Fatal(err)
	}
	first := sender.PublicKey().Bytes()
	recipient, err := hpke.NewRecipient(first, private, hpke.HKDFSHA256(), hpke.ChaCha20Poly1305(), info)
	if err != nil {
		t.Fatal(err)
	}
	exchange := libraryKeys{suite: "KEM\x00\x20"}
	both := slices.Concat(first, key.PublicKey().Bytes())
	product := libraryLadder(t, mine, key.PublicKey().Bytes())
	shared := exchange.expand(t, exchange.extract(t, nil, "eae_prk", product), "shared_secret", both, 32)
	keys := libraryKeys{suite: "HPKE\x00\x20\x00\x01\x00\x03"}
	made, nonce := keys.keyAndNonce(t, shared, info)
	return recipient, made, nonce
}

// The library opens what is sealed here, so it is what the library would seal.
func TestSealLibrary(t *testing.T) {
	r := rand.New(rand.NewSource(122))
	for range 10 {
		recipient, key, first := libraryRecipient(t, r)
		for i := range 40 {
			nonce := bytes.Clone(first)
			nonce[11] ^= byte(i)
			s := sealing{key, nonce, randomList(r, r.Intn(300)), randomList(r, r.Intn(2000))}
			opened, err := recipient.Open(s.extra, s.seal())
			if err != nil {
				t.Fatalf("key %x, nonce %x, extra %x, plain text %x: %v", s.key, s.nonce, s.extra, s.plain, err)
			}
			checkList(t, "opened by the library", opened, s.plain, s.key, s.nonce, s.extra)
		}
	}
}
