package tests

import (
	"bytes"
	"crypto/ed25519"
	"math/big"
	"math/rand"
	"slices"
	"testing"

	"loop.example/g00004/impl"
)

// The six ways in which chapter 9 refuses a signature, and their order.

// claim is a call of Verify.
type claim struct {
	public  []byte
	message []byte
	first   []byte
	second  []byte
}

func claimOf(s signing) claim {
	signature := s.sign()
	return claim{public: s.public(), message: s.message, first: signature[:32], second: signature[32:]}
}

func (c claim) signature() []byte {
	return slices.Concat(c.first, c.second)
}

func (c claim) check(t *testing.T, what string, want int64) {
	t.Helper()
	checkVerify(t, what, c.public, c.message, c.signature(), want)
}

// checkTold also holds what is told to the number that is wanted.
func (c claim) checkTold(t *testing.T, what string, want int64) {
	t.Helper()
	if told := toldVerify(t, c.public, c.message, c.signature()); told != want {
		t.Fatalf("%s: told is %d, want %d", what, told, want)
	}
	c.check(t, what, want)
}

func randomClaim(r *rand.Rand) claim {
	return claimOf(signing{randomList(r, 32), randomList(r, r.Intn(200))})
}

// noPoints are forms that PointDecode refuses: from P on, of an odd 0, and of a Y that goes with no X.
func noPoints(r *rand.Rand) [][]byte {
	var forms [][]byte
	for n := range int64(19) {
		b := lowBytes(plus(fieldP(), n))
		forms = append(forms, b, withHighestBit(b, true))
	}
	for _, y := range [][]byte{lowNumber(1), lowBytes(plus(fieldP(), -1))} {
		forms = append(forms, withHighestBit(y, true))
	}
	for _, n := range []int64{2, 7, 8} {
		forms = append(forms, lowNumber(n), withHighestBit(lowNumber(n), true))
	}
	for len(forms) < 80 {
		b := randomElement(r)
		if _, good := bigPointOf(b); !good {
			forms = append(forms, b)
		}
	}
	return forms
}

// notBelowOrder are 32 bytes of numbers from Q on.
func notBelowOrder(r *rand.Rand) [][]byte {
	lists := [][]byte{full(32)}
	for _, a := range append(orderManyEdges(), randomElement(r), randomElement(r), randomElement(r)) {
		if bigOfLow(a).Cmp(orderQ()) >= 0 {
			lists = append(lists, a)
		}
	}
	return lists
}

func smallForms(t *testing.T) [][]byte {
	t.Helper()
	var forms [][]byte
	for _, p := range smallPoints(t) {
		forms = append(forms, toldForm(p))
	}
	return forms
}

// Signatures that were published as those on which programs differ: small and mixed points, other forms.
func TestVerifyPublishedEdges(t *testing.T) {
	small := "c7176a703d4dd84fba3c0b760d10670f2a2053fa2c39ccc64ec7fd7792ac03"
	mixed := "cdb267ce40c5cd45306fa5d2f29731459387dbf9eb933b7bd5aed9a765b88d4d"
	other := "f7badec5b8abeaf699583992219b7b223f1df3fbbea919844e3f7c554a43dd43"
	large := "442aad9f089ad9e14647b1ef9099a1ff4798d78589e66f28eca69c11f582a623"
	oddZero := "ecffffffffffffffffffffffffffffffffffffffffffffffffffffffffffffff"
	for _, one := range []struct {
		message string
		public  string
		first   string
		second  string
		want    int64
	}{
		{"8c93255d71dcab10e8f379c26200f3c7bd5f09d9bc3068d3ef4edeb4853022b6", small + "fa", small + "7a",
			"0000000000000000000000000000000000000000000000000000000000000000", 5},
		{"9bd9f44f4dcc75bd531b56b2cd280b0bb38fc1cd6d1230e14861d861de092e79", small + "fa", other,
			"a5bb704786be79fc476f91d3f3f89b03984d8068dcf1bb7dfc6637b45450ac04", 5},
		{"aebf3f2601a0c8c5d39cc7d8911642f740b78168218da8471772b35f9d35b9ab", other, small + "fa",
			"8c4bd45aecaca5b24fb97bc10ac27ac8751a7dfe1baff8b953ec9f5833ca260e", 0},
		{"9bd9f44f4dcc75bd531b56b2cd280b0bb38fc1cd6d1230e14861d861de092e79", mixed,
			"9046a64750444938de19f227bb80485e92b83fdb4b6506c160484c016cc1852f",
			"87909e14428a7a1d62e9f22f3d3ad7802db02eb2e688b6c52fcd6648a98bd009", 0},
		{"e47d62c63f830dc7a6851a0b1f33ae4bb2f507fb6cffec4011eaccd55b53f56c", mixed,
			"160a1cb0dc9c0258cd0a7d23e94d8fa878bcb1925f2c64246b2dee1796bed512",
			"5ec6bc982a269b723e0668e540911a9a6a58921d6925e434ab10aa7940551a09", 6},
		{"e47d62c63f830dc7a6851a0b1f33ae4bb2f507fb6cffec4011eaccd55b53f56c", mixed,
			"21122a84e0b5fca4052f5b1235c80a537878b38f3142356b2c2384ebad4668b7",
			"e40bc836dac0f71076f9abe3a53f9c03c1ceeeddb658d0030494ace586687405", 6},
		{"85e241a07d148b41e47d62c63f830dc7a6851a0b1f33ae4bb2f507fb6cffec40", large,
			"e96f66be976d82e60150baecff9906684aebb1ef181f67a7189ac78ea23b6c0e",
			"547f7690a0e2ddcd04d87dbc3490dc19b3b3052f7ff0538cb68afb369ba3a514", 2},
		{"85e241a07d148b41e47d62c63f830dc7a6851a0b1f33ae4bb2f507fb6cffec40", large,
			"8ce5b96c8f26d0ab6c47958c9e68b937104cd36e13c33566acd2fe8d38aa1942",
			"7e71f98a473474f2f13f06f97c20d58cc3f54b8bd0d272f42b695dd7e89a8c22", 2},
		{"9bedc267423725d473888631ebf45988bad3db83851ee85c85e241a07d148b41", other, oddZero,
			"03be9678ac102edcd92b0210bb34d7428d12ffc5df5f37e359941266a4e35f0f", 4},
		{"9bedc267423725d473888631ebf45988bad3db83851ee85c85e241a07d148b41", other, oddZero,
			"ca8c5b64cd208982aa38d4936621a4775aa233aa0505711d8fdcfdaa943d4908", 4},
		{"e96b7021eb39c1a163b6da4e3093dcd3f21387da4cc4572be588fafae23c155b", oddZero,
			"a9d55260f765261eb9b84e106f665e00b867287a761990d7135963ee0a7d59dc",
			"a5bb704786be79fc476f91d3f3f89b03984d8068dcf1bb7dfc6637b45450ac04", 3},
		{"39a591f5321bbe07fd5a23dc2f39d025d74526615746727ceefd6e82ae65c06f", oddZero,
			"a9d55260f765261eb9b84e106f665e00b867287a761990d7135963ee0a7d59dc",
			"a5bb704786be79fc476f91d3f3f89b03984d8068dcf1bb7dfc6637b45450ac04", 3},
	} {
		c := claim{fromHex(t, one.public), fromHex(t, one.message), fromHex(t, one.first), fromHex(t, one.second)}
		c.checkTold(t, "published", one.want)
	}
}

// 1: lists of other lengths, cut, with bytes more, or of any bytes.
func TestVerifyOtherLengths(t *testing.T) {
	r := rand.New(rand.NewSource(134))
	for range 5 {
		c := randomClaim(r)
		for _, public := range append(otherLengths(r, c.public), notOfSize(r, 32)...) {
			checkVerify(t, "public", public, c.message, c.signature(), 1)
			checkVerify(t, "public and signature", public, c.message, c.first, 1)
		}
		lists := append(notOfSize(r, 64), nil, c.first, c.second, c.signature()[:63], c.signature()[1:],
			append(c.signature(), 0), append([]byte{0}, c.signature()...), append(c.signature(), c.signature()...))
		for _, signature := range lists {
			checkVerify(t, "signature", c.public, c.message, signature, 1)
		}
		checkVerify(t, "exchanged", c.signature(), c.message, c.public, 1)
		checkVerify(t, "nothing", nil, nil, nil, 1)
	}
}

// 2: from Q on.
func TestVerifySecondHalfNotBelowOrder(t *testing.T) {
	r := rand.New(rand.NewSource(135))
	for range 3 {
		c := randomClaim(r)
		for _, c.second = range notBelowOrder(r) {
			c.check(t, "second half", 2)
		}
	}
}

// Numbers below Q are not refused for that, up to Q - 1.
func TestVerifySecondHalfBelowOrder(t *testing.T) {
	r := rand.New(rand.NewSource(136))
	c := randomClaim(r)
	lists := [][]byte{lowNumber(0), lowNumber(1), lowBytes(plus(orderQ(), -2)), lowBytes(plus(orderQ(), -1)),
		lowBytes(powerOf2(252)), lowBytes(plus(powerOf2(252), -1)), lowBytes(plus(powerOf2(252), 1))}
	for _, c.second = range lists {
		c.checkTold(t, "second half", 6)
	}
}

// 3: forms of no point.
func TestVerifyPublicNoPoint(t *testing.T) {
	r := rand.New(rand.NewSource(137))
	c := randomClaim(r)
	for _, c.public = range noPoints(r) {
		c.check(t, "public", 3)
	}
}

// 4: forms of no point.
func TestVerifyFirstNoPoint(t *testing.T) {
	r := rand.New(rand.NewSource(138))
	c := randomClaim(r)
	for _, c.first = range noPoints(r) {
		c.check(t, "first half", 4)
	}
}

// 5: all points of the small group, whatever is signed.
func TestVerifySmallPublic(t *testing.T) {
	r := rand.New(rand.NewSource(139))
	for _, form := range smallForms(t) {
		for range 5 {
			c := randomClaim(r)
			c.public = form
			c.checkTold(t, "small", 5)
			c.first = form
			c.check(t, "small twice", 5)
			c.second = lowNumber(0)
			c.check(t, "small twice, and 0", 5)
		}
	}
}

// factors are two numbers by which the base is scaled to a public key and to a first half, and how often a point of
// order 8 is added to each.
type factors struct {
	public      *big.Int
	first       *big.Int
	publicSmall int64
	firstSmall  int64
}

// mixedForm is the form of the base scaled by n, with so many of the small point more.
func mixedForm(t *testing.T, n *big.Int, small int64) []byte {
	t.Helper()
	base := impl.PointScale(lowBytes(n), impl.PointBase())
	more := impl.PointScale(lowNumber(small), smallPoints(t)[4])
	return impl.PointEncode(impl.PointAdd(base, more))
}

// claim answers also whether the sums are equal: what is added of the small point must come round at 8.
func (f factors) claim(t *testing.T, message []byte) (claim, bool) {
	t.Helper()
	c := claim{public: mixedForm(t, f.public, f.publicSmall), message: message, first: mixedForm(t, f.first, f.firstSmall)}
	k := longModQ(c.first, c.public, message)
	s := new(big.Int).Mul(k, f.public)
	c.second = lowBytes(s.Add(s, f.first).Mod(s, orderQ()))
	rest := new(big.Int).Mul(k, big.NewInt(f.publicSmall))
	return c, rest.Add(rest, big.NewInt(f.firstSmall)).Mod(rest, big.NewInt(8)).Sign() == 0
}

// Keys and first halves with a small point more are points as others are: the sums alone decide, not their eightfold.
func TestVerifyMixedPoints(t *testing.T) {
	r := rand.New(rand.NewSource(140))
	counts := map[int64]int{}
	for i := range int64(8) {
		for j := range int64(8) {
			for range 4 {
				f := factors{numberBelowOrder(r), numberBelowOrder(r), i, j}
				c, equal := f.claim(t, randomList(r, r.Intn(100)))
				want := int64(6)
				if equal {
					want = 0
				}
				c.check(t, "mixed", want)
				counts[want]++
				// Where the small points come to the one of order 2, these sums have the same X.
				c.second = oppositeNumber(c.second)
				c.check(t, "mixed, opposite", 6)
			}
		}
	}
	if counts[0] < 20 || counts[6] < 100 {
		t.Errorf("good and not good: %v", counts)
	}
}

// oppositeNumber answers Q less the number.
func oppositeNumber(a []byte) []byte {
	return lowBytes(new(big.Int).Sub(orderQ(), bigOfLow(a)))
}

// numberBelowOrder is not 0.
func numberBelowOrder(r *rand.Rand) *big.Int {
	n := bigOfLow(randomElement(r))
	return plus(n.Mod(n, plus(orderQ(), -1)), 1)
}

// 5 comes ahead of the sums, also where these are equal.
func TestVerifySmallPublicThatWouldFit(t *testing.T) {
	r := rand.New(rand.NewSource(141))
	fits := 0
	for i := range int64(8) {
		for j := range int64(8) {
			for _, first := range []*big.Int{big.NewInt(0), numberBelowOrder(r)} {
				f := factors{big.NewInt(0), first, i, j}
				c, equal := f.claim(t, randomList(r, 20))
				c.check(t, "small", 5)
				if equal {
					fits++
				}
			}
		}
	}
	if fits < 8 {
		t.Errorf("only %d sums are equal", fits)
	}
}

// A first half may be a small point, zero too: only a public key may not.
func TestVerifySmallFirst(t *testing.T) {
	r := rand.New(rand.NewSource(142))
	goods := 0
	for j := range int64(8) {
		for i := range int64(8) {
			f := factors{numberBelowOrder(r), big.NewInt(0), i, j}
			c, equal := f.claim(t, randomList(r, 20))
			if equal {
				c.checkTold(t, "small first half", 0)
				goods++
			} else {
				c.check(t, "small first half", 6)
			}
		}
	}
	if goods < 2 {
		t.Errorf("only %d are good", goods)
	}
	zero, _ := factors{numberBelowOrder(r), big.NewInt(0), 0, 0}.claim(t, upwards(9))
	checkList(t, "first half", zero.first, lowNumber(1))
	zero.checkTold(t, "zero as first half", 0)
}

// 6: all is in order, but the sums differ.
func TestVerifySumsDiffer(t *testing.T) {
	r := rand.New(rand.NewSource(143))
	for range 10 {
		c, d := randomClaim(r), randomClaim(r)
		negative := withHighestBit(c.first, c.first[31] < 128)
		opposite := oppositeNumber(c.second)
		for _, other := range []claim{
			{d.public, c.message, c.first, c.second},
			{c.public, d.message, c.first, c.second},
			{c.public, c.message, d.first, c.second},
			{c.public, c.message, c.first, d.second},
			{c.public, c.message, d.first, d.second},
			{c.public, c.message, c.public, c.second},
			{c.first, c.message, c.public, c.second},
			{withHighestBit(c.public, c.public[31] < 128), c.message, c.first, c.second},
			{c.public, c.message, negative, c.second},
			{c.public, c.message, negative, opposite},
			{c.public, c.message, c.first, opposite},
			{c.public, c.message, c.first, impl.OrderMulAdd(lowNumber(1), c.second, lowNumber(1))},
			{c.public, c.message, c.first, lowNumber(0)},
			{c.public, c.message, lowNumber(1), c.second},
			{c.public, c.message, lowNumber(1), lowNumber(0)},
		} {
			other.checkTold(t, "sums", 6)
		}
		c.check(t, "signed", 0)
	}
}

// firstNamed is the number of the first rule that is broken.
func firstNamed(broken ...bool) int64 {
	return int64(slices.Index(append(broken, true), true)+1) % int64(len(broken)+1)
}

// Several faults at once, in all ways: the one named first is answered.
func TestVerifyFirstNamed(t *testing.T) {
	r := rand.New(rand.NewSource(144))
	c := randomClaim(r)
	noPoint, small, above := noPoints(r), smallForms(t), notBelowOrder(r)
	for set := range 1 << 6 {
		has := func(fault int) bool { return set>>(fault-1)&1 == 1 }
		for range 3 {
			d := c
			if has(2) {
				d.second = above[r.Intn(len(above))]
			}
			if has(5) {
				d.public = small[r.Intn(len(small))]
			}
			if has(3) {
				d.public = noPoint[r.Intn(len(noPoint))]
			}
			if has(4) {
				d.first = noPoint[r.Intn(len(noPoint))]
			}
			if has(6) {
				d.message = append(bytes.Clone(c.message), 1)
			}
			want := firstNamed(has(1), has(2), has(3), has(4), has(5), has(6))
			if has(1) {
				checkVerify(t, "public too short", d.public[:31], d.message, d.signature(), want)
				checkVerify(t, "public too long", append(bytes.Clone(d.public), 0), d.message, d.signature(), want)
				checkVerify(t, "signature too short", d.public, d.message, d.signature()[:63], want)
				checkVerify(t, "signature too long", d.public, d.message, append(d.signature(), 0), want)
				checkVerify(t, "both of another length", nil, d.message, nil, want)
			} else {
				d.checkTold(t, "several faults", want)
			}
		}
	}
}

// anyOf answers one of the lists, or any 32 bytes.
func anyOf(r *rand.Rand, lists [][]byte) []byte {
	if i := r.Intn(len(lists) + 1); i < len(lists) {
		return lists[i]
	}
	return randomList(r, 32)
}

// Edges of all kinds with each other, against what is told.
func TestVerifyTold(t *testing.T) {
	r := rand.New(rand.NewSource(145))
	points := smallForms(t)
	for _, p := range append(edgePoints(), randomPoints(r, 10)...) {
		points = append(points, toldForm(p))
	}
	forms := slices.Concat(points, points, noPoints(r)[:5])
	for range 300 {
		c := claim{public: anyOf(r, forms), message: randomList(r, r.Intn(100)), first: anyOf(r, forms), second: anyOf(r, orderEdges())}
		if r.Intn(4) > 0 {
			c.second = impl.OrderReduce(c.second)
		}
		c.check(t, "edges", toldVerify(t, c.public, c.message, c.signature()))
	}
}

// The library takes just what is answered with 0, if a public key is a point that is not small.
func TestVerifyLibrary(t *testing.T) {
	r := rand.New(rand.NewSource(146))
	taken := 0
	for i := range 400 {
		c := randomClaim(r)
		if i%4 > 0 {
			f := factors{numberBelowOrder(r), numberBelowOrder(r), r.Int63n(8), r.Int63n(8)}
			c, _ = f.claim(t, c.message)
		}
		if i%5 == 0 {
			c.second = withBit(c.second, r.Intn(256))
		}
		want := ed25519.Verify(c.public, c.message, c.signature())
		if got := impl.Verify(c.public, c.message, c.signature()); (got == 0) != want {
			t.Errorf("public %x, message %x, signature %x: got %d, taken by the library: %v", c.public, c.message, c.signature(), got, want)
		}
		if want {
			taken++
		}
	}
	if taken < 80 || taken > 320 {
		t.Errorf("of 400 signatures the library takes %d", taken)
	}
}

func ofVerify(args [][]byte) [][]byte {
	return [][]byte{{byte(impl.Verify(args[0], args[1], args[2]))}}
}

func TestVerifyMemory(t *testing.T) {
	r := rand.New(rand.NewSource(147))
	noPoint, small := noPoints(r), smallForms(t)
	for range 10 {
		c := randomClaim(r)
		checkMemory(t, "verify", ofVerify, c.public, c.message, c.signature())
		checkMemory(t, "verify", ofVerify, c.public, nil, c.signature())
		checkMemory(t, "verify", ofVerify, c.public[:31], c.message, c.signature())
		checkMemory(t, "verify", ofVerify, c.public, c.message, c.signature()[:63])
		checkMemory(t, "verify", ofVerify, c.public, c.message, slices.Concat(c.first, full(32)))
		checkMemory(t, "verify", ofVerify, noPoint[r.Intn(len(noPoint))], c.message, c.signature())
		checkMemory(t, "verify", ofVerify, c.public, c.message, slices.Concat(noPoint[r.Intn(len(noPoint))], c.second))
		checkMemory(t, "verify", ofVerify, small[r.Intn(len(small))], c.message, c.signature())
	}
}
