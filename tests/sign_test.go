package tests

import (
	"bytes"
	"crypto/ed25519"
	"math/rand"
	"slices"
	"testing"

	"loop.example/g00004/impl"
)

// What chapter 9 says of public keys and of signing, and promise 14.

// signing is a call of Sign.
type signing struct {
	seed    []byte
	message []byte
}

func (s signing) public() []byte {
	return impl.SignPublic(s.seed)
}

func (s signing) sign() []byte {
	return impl.Sign(s.seed, s.message)
}

// signSeeds are of many kinds: all bytes alike, rising, falling, of one bit, and any.
func signSeeds(r *rand.Rand) [][]byte {
	seeds := [][]byte{make([]byte, 32), full(32), upwards(32), turned(upwards(32)), bytes.Repeat([]byte{0x55}, 32),
		lowNumber(1), lowBytes(powerOf2(255)), lowBytes(powerOf2(100)), lowBytes(orderQ()), lowBytes(fieldP())}
	for range 10 {
		seeds = append(seeds, randomList(r, 32))
	}
	return seeds
}

// signLengths end a block of the hash, or the room that its padding leaves, behind 32 or 64 bytes, stand beside such ends,
// or are some hundred.
func signLengths() []int {
	return []int{0, 1, 2, 31, 32, 33, 47, 48, 63, 64, 65, 79, 80, 95, 96, 97, 127, 128, 129, 300, 517}
}

func signings(r *rand.Rand) []signing {
	var all []signing
	for _, seed := range signSeeds(r) {
		for _, n := range signLengths() {
			all = append(all, signing{seed, randomList(r, n)})
		}
		all = append(all, signing{seed, nil}, signing{seed, make([]byte, 64)}, signing{seed, full(100)}, signing{seed, seed})
	}
	return all
}

func checkVerify(t *testing.T, what string, public []byte, message []byte, signature []byte, want int64) {
	t.Helper()
	if got := impl.Verify(public, message, signature); got != want {
		t.Errorf("%s: public %x, message %x, signature %x: got %d, want %d", what, public, message, signature, got, want)
	}
}

func checkNotVerified(t *testing.T, what string, public []byte, message []byte, signature []byte) {
	t.Helper()
	if impl.Verify(public, message, signature) == 0 {
		t.Errorf("%s: public %x, message %x, signature %x: taken", what, public, message, signature)
	}
}

func TestSignConstants(t *testing.T) {
	if impl.SignatureSize != 64 {
		t.Errorf("a signature has %d bytes", impl.SignatureSize)
	}
}

// The signatures that were published with the make.
func TestSignPublished(t *testing.T) {
	for _, one := range [][4]string{
		{"9d61b19deffd5a60ba844af492ec2cc44449c5697b326919703bac031cae7f60",
			"d75a980182b10ab7d54bfed3c964073a0ee172f3daa62325af021a68f707511a",
			"",
			"e5564300c360ac729086e2cc806e828a84877f1eb8e5d974d873e06522490155" +
				"5fb8821590a33bacc61e39701cf9b46bd25bf5f0595bbe24655141438e7a100b"},
		{"4ccd089b28ff96da9db6c346ec114e0f5b8a319f35aba624da8cf6ed4fb8a6fb",
			"3d4017c3e843895a92b70aa74d1b7ebc9c982ccf2ec4968cc0cd55f12af4660c",
			"72",
			"92a009a9f0d4cab8720e820b5f642540a2b27b5416503f8fb3762223ebdb69da" +
				"085ac1e43e15996e458f3613d0f11d8c387b2eaeb4302aeeb00d291612bb0c00"},
		{"c5aa8df43f9f837bedb7442f31dcb7b166d38535076f094b85ce3a2e0b4458f7",
			"fc51cd8e6218a1a38da47ed00230f0580816ed13ba3303ac5deb911548908025",
			"af82",
			"6291d657deec24024827e69c3abe01a30ce548a284743a445e3680d7db5ac3ac" +
				"18ff9b538d16f290ae67f760984dc6594a7c15e9716ed28dc027beceea1ec40a"},
		{"833fe62409237b9d62ec77587520911e9a759cec1d19755b7da901b96dca3d42",
			"ec172b93ad5e563bf4932c70e1245034c35467ef2efd4d64ebf819683467e2bf",
			"ddaf35a193617abacc417349ae20413112e6fa4e89a97ea20a9eeee64b55d39a" +
				"2192992a274fc1a836ba3c23a3feebbd454d4423643ce80e2a9ac94fa54ca49f",
			"dc2a4459e7369633a52b1bf277839a00201009a3efbf3ecb69bea2186c26b589" +
				"09351fc9ac90b3ecfdfbc7c66431e0303dca179c138ac17ad9bef1177331a704"},
		{"77f88691c4eff23ebb7364947092951a5ff3f10785b417e918823a552dab7c75",
			"74d29127f199d86a8676aec33b4ce3f225ccb191f52c191ccd1e8cca65213a6b",
			"bd8e05033f3a8bcdcbf4beceb70901c82e31",
			"fbe929d743a03c17910575492f3092ee2a2bf14a60a3fcacec74a58c7334510f" +
				"c262db582791322d6c8c41f1700adb80027ecabc14270b703444ae3ee7623e0a"},
	} {
		s := signing{fromHex(t, one[0]), fromHex(t, one[2])}
		checkList(t, "public key", s.public(), fromHex(t, one[1]), s.seed)
		checkList(t, "signature", s.sign(), fromHex(t, one[3]), s.seed, s.message)
		checkVerify(t, "published", fromHex(t, one[1]), s.message, fromHex(t, one[3]), 0)
	}
}

func TestSignTold(t *testing.T) {
	r := rand.New(rand.NewSource(123))
	for i, s := range signings(r) {
		if i%3 == 0 {
			checkList(t, "public key", s.public(), toldSignPublic(t, s.seed), s.seed)
			checkList(t, "signature", s.sign(), toldSign(t, s.seed, s.message), s.seed, s.message)
		}
	}
}

func checkLibrarySign(t *testing.T, s signing) {
	t.Helper()
	key := ed25519.NewKeyFromSeed(s.seed)
	public, signature := key.Public().(ed25519.PublicKey), ed25519.Sign(key, s.message)
	checkList(t, "public key", s.public(), public, s.seed)
	checkList(t, "signature", s.sign(), signature, s.seed, s.message)
	checkVerify(t, "the library's", public, s.message, signature, 0)
}

func TestSignLibrary(t *testing.T) {
	r := rand.New(rand.NewSource(124))
	for _, s := range signings(r) {
		checkLibrarySign(t, s)
	}
	for n := range 300 {
		checkLibrarySign(t, signing{randomList(r, 32), randomList(r, n)})
	}
	for _, n := range []int{1023, 4096, 65537} {
		checkLibrarySign(t, signing{randomList(r, 32), randomList(r, n)})
	}
}

// Each bit of a seed on its own makes another key.
func TestSignEachBitOfTheSeed(t *testing.T) {
	for i := range 256 {
		checkLibrarySign(t, signing{lowBytes(powerOf2(uint(i))), upwards(i)})
	}
}

// The parts of a signature, by the functions that chapter 9 names.
func TestSignParts(t *testing.T) {
	r := rand.New(rand.NewSource(125))
	for _, s := range signings(r) {
		h := impl.HashLong(s.seed)
		a := impl.LadderClamp(h[:32])
		public := impl.PointEncode(impl.PointScale(a, impl.PointBase()))
		number := impl.OrderReduce(impl.HashLong(slices.Concat(h[32:], s.message)))
		first := impl.PointEncode(impl.PointScale(number, impl.PointBase()))
		k := impl.OrderReduce(impl.HashLong(slices.Concat(first, public, s.message)))
		checkList(t, "public key", s.public(), public, s.seed)
		checkList(t, "signature", s.sign(), slices.Concat(first, impl.OrderMulAdd(k, a, number)), s.seed, s.message)
	}
}

func TestPromise14VerifyOfSign(t *testing.T) {
	r := rand.New(rand.NewSource(126))
	for _, s := range signings(r) {
		checkVerify(t, "signed", s.public(), s.message, s.sign(), 0)
	}
	for n := range 200 {
		s := signing{randomList(r, 32), randomList(r, n)}
		checkVerify(t, "signed", s.public(), s.message, s.sign(), 0)
	}
	s := signing{randomList(r, 32), randomList(r, 100000)}
	checkVerify(t, "signed", s.public(), s.message, s.sign(), 0)
}

// withOrders are the signature's other forms: its second half with Q added so often as 32 bytes hold it.
func withOrders(signature []byte) [][]byte {
	var forms [][]byte
	s := bigOfLow(signature[32:])
	for s.Add(s, orderQ()); s.BitLen() <= 256; s.Add(s, orderQ()) {
		forms = append(forms, slices.Concat(signature[:32], lowBytes(s)))
	}
	return forms
}

func TestPromise14OneForm(t *testing.T) {
	r := rand.New(rand.NewSource(127))
	for _, s := range signings(r) {
		public, signature := s.public(), s.sign()
		if !impl.OrderValid(signature[32:]) {
			t.Errorf("seed %x, message %x: the second half of %x is not below Q", s.seed, s.message, signature)
		}
		forms := withOrders(signature)
		if len(forms) < 14 {
			t.Errorf("only %d forms of %x", len(forms), signature)
		}
		for _, form := range forms {
			checkVerify(t, "with Q added", public, s.message, form, 2)
		}
	}
}

// checkEachBit turns each bit of the message, of the public key and of the signature whose place is looked at.
func checkEachBit(t *testing.T, s signing, looked func(place int) bool) {
	t.Helper()
	public, signature := s.public(), s.sign()
	for i := range 8 * len(s.message) {
		if looked(i) {
			checkNotVerified(t, "a bit of the message", public, withBit(s.message, i), signature)
		}
	}
	for i := range 8 * len(public) {
		if looked(i) {
			checkNotVerified(t, "a bit of the public key", withBit(public, i), s.message, signature)
		}
	}
	for i := range 8 * len(signature) {
		if looked(i) {
			checkNotVerified(t, "a bit of the signature", public, s.message, withBit(signature, i))
		}
	}
}

func TestPromise14EachBit(t *testing.T) {
	r := rand.New(rand.NewSource(128))
	for _, n := range []int{1, 65} {
		checkEachBit(t, signing{randomList(r, 32), randomList(r, n)}, func(int) bool { return true })
	}
	for _, s := range signings(r) {
		bit := r.Intn(600)
		checkEachBit(t, s, func(place int) bool { return place%600 == bit })
	}
}

// A message that is a byte longer or shorter is another one.
func TestPromise14OtherLengths(t *testing.T) {
	r := rand.New(rand.NewSource(129))
	for _, n := range signLengths() {
		s := signing{randomList(r, 32), randomList(r, n)}
		public, signature := s.public(), s.sign()
		checkVerify(t, "a byte more", public, append(bytes.Clone(s.message), 0), signature, 6)
		checkVerify(t, "a byte ahead", public, append([]byte{0}, s.message...), signature, 6)
		checkVerify(t, "bytes 0 more", public, append(bytes.Clone(s.message), make([]byte, 128)...), signature, 6)
		if n > 0 {
			checkVerify(t, "a byte less", public, s.message[:n-1], signature, 6)
			checkVerify(t, "no byte", public, nil, signature, 6)
		}
	}
}

func TestSignSeedsOfOtherLengths(t *testing.T) {
	r := rand.New(rand.NewSource(130))
	seeds := append(notOfSize(r, 32), []byte{}, upwards(31), upwards(33), upwards(64))
	for _, seed := range seeds {
		checkList(t, "public key", impl.SignPublic(seed), nil, seed)
		for _, message := range [][]byte{nil, {}, upwards(1), upwards(32), seed} {
			checkList(t, "signature", impl.Sign(seed, message), nil, seed, message)
		}
	}
}

func TestSignNilIsEmpty(t *testing.T) {
	seed := upwards(32)
	checkList(t, "signature", impl.Sign(seed, nil), impl.Sign(seed, []byte{}), seed)
	checkVerify(t, "nil", impl.SignPublic(seed), nil, impl.Sign(seed, []byte{}), 0)
	checkVerify(t, "empty", impl.SignPublic(seed), []byte{}, impl.Sign(seed, nil), 0)
}

// allSigned are the lists of all answers at once, so that none shares memory with another.
func allSigned(args [][]byte) [][]byte {
	seed, message := args[0], args[1]
	return [][]byte{impl.SignPublic(seed), impl.SignPublic(seed), impl.Sign(seed, message), impl.Sign(seed, message)}
}

func TestSignMemory(t *testing.T) {
	r := rand.New(rand.NewSource(131))
	for i, s := range signings(r) {
		if i%4 == 0 {
			checkMemory(t, "sign", allSigned, s.seed, s.message)
		}
	}
	for _, n := range []int{0, 31, 33} {
		checkMemory(t, "sign", allSigned, randomList(r, n), randomList(r, 40))
	}
}

// Seed, message, public key and signature may be pieces of one room.
func TestSignOfOneRoom(t *testing.T) {
	r := rand.New(rand.NewSource(132))
	for i := range 40 {
		room := randomList(r, 200)
		before := bytes.Clone(room)
		s := signing{room[i : i+32], room[i/2 : i+60]}
		checkList(t, "signature", s.sign(), ed25519.Sign(ed25519.NewKeyFromSeed(s.seed), s.message), s.seed, s.message)
		checkList(t, "room", room, before)
		room = slices.Concat(s.public(), s.sign(), s.message)
		before = bytes.Clone(room)
		checkVerify(t, "of one room", room[:32], room[96:], room[32:96], 0)
		checkVerify(t, "of one room, moved", room[1:33], room[96:], room[32:96], toldVerify(t, room[1:33], room[96:], room[32:96]))
		checkList(t, "room", room, before)
	}
}
