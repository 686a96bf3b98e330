package tests

import (
	"bytes"
	"crypto/ecdh"
	"encoding/hex"
	"math/big"
	"math/rand"
	"testing"

	"loop.example/g00004/impl"
)

// The recurrence of chapter 4, done by the calls of chapter 2, and the library's curve are what the ladder is held
// against.

// toldClamp changes the bits that chapter 4 names, one by one.
func toldClamp(k []byte) []byte {
	n := bytes.Clone(k)
	n[0] &= 255 - 1 - 2 - 4
	n[31] &= 255 - 128
	n[31] |= 64
	return n
}

// toldLadder is the recurrence word by word.
func toldLadder(k []byte, u []byte) []byte {
	add, sub, mul := impl.FieldAdd, impl.FieldSub, impl.FieldMul
	square := func(a []byte) []byte { return mul(a, a) }
	n, x := toldClamp(k), bytes.Clone(u)
	x[31] &= 127
	x = impl.FieldReduce(x)
	a, b, c, d := lowNumber(1), lowNumber(0), x, lowNumber(1)
	for i := 254; i >= 0; i-- {
		on := n[i/8]>>(i%8)&1 == 1
		if on {
			a, b, c, d = c, d, a, b
		}
		s, t := square(add(a, b)), square(sub(a, b))
		w := sub(s, t)
		y, z := mul(sub(c, d), add(a, b)), mul(add(c, d), sub(a, b))
		c, d = square(add(y, z)), mul(x, square(sub(y, z)))
		a, b = mul(s, t), mul(w, add(s, mul(lowNumber(121665), w)))
		if on {
			a, b, c, d = c, d, a, b
		}
	}
	return mul(a, impl.FieldInvert(b))
}

// libraryLadder is what the library answers; it refuses where nothing is left.
func libraryLadder(t *testing.T, k []byte, u []byte) []byte {
	t.Helper()
	private, err := ecdh.X25519().NewPrivateKey(k)
	if err != nil {
		t.Fatal(err)
	}
	public, err := ecdh.X25519().NewPublicKey(u)
	if err != nil {
		t.Fatal(err)
	}
	key, err := private.ECDH(public)
	if err != nil {
		return make([]byte, 32)
	}
	return key
}

func fromHex(t *testing.T, text string) []byte {
	t.Helper()
	b, err := hex.DecodeString(text)
	if err != nil {
		t.Fatal(err)
	}
	return b
}

func withHighestBit(u []byte, on bool) []byte {
	v := bytes.Clone(u)
	v[31] &= 127
	if on {
		v[31] |= 128
	}
	return v
}

// twistOrder is the prime that the points of the numbers that are no first coordinates of the curve come round at:
// 2^253 - 55484635554744707071703875581767296995.
func twistOrder() *big.Int {
	low, _ := new(big.Int).SetString("55484635554744707071703875581767296995", 10)
	return low.Sub(powerOf2(253), low)
}

// ladderKeys have few bits, all bits, bits in turn, words of 64 bits all 0 or all 1, and are all numbers next to
// multiples of the two orders: there one of the two pairs comes to a point of which nothing is left.
func ladderKeys() [][]byte {
	keys := [][]byte{make([]byte, 32), full(32), bytes.Repeat([]byte{0x55}, 32), bytes.Repeat([]byte{0xaa}, 32)}
	keys = append(keys, limbEdges([]uint{0, 64, 128, 192, 256}, 0)...)
	for n := int64(1); n <= 8; n++ {
		for _, order := range []*big.Int{orderQ(), twistOrder()} {
			multiple := new(big.Int).Mul(big.NewInt(n), order)
			for _, more := range []int64{-8, -4, -1, 0, 4, 8} {
				if b := plus(multiple, more); b.BitLen() <= 256 {
					keys = append(keys, lowBytes(b))
				}
			}
		}
	}
	return keys
}

// namedCoordinates are 0, 1, 9, P - 1, P, P + 1, 2^255 - 1, 2^255 and 2^256 - 1.
func namedCoordinates() [][]byte {
	p := fieldP()
	return [][]byte{lowNumber(0), lowNumber(1), lowNumber(9), lowBytes(plus(p, -1)), lowBytes(p), lowBytes(plus(p, 1)),
		lowBytes(plus(powerOf2(255), -1)), lowBytes(powerOf2(255)), full(32)}
}

// lostCoordinates are all u of which a clamped number leaves nothing: of the points whose order is 1, 2, 4 or 8, on the
// curve or beside it, in all 32 bytes that stand for them.
func lostCoordinates(t *testing.T) [][]byte {
	t.Helper()
	p := fieldP()
	lost := [][]byte{lowNumber(0), lowNumber(1), lowBytes(plus(p, -1)), lowBytes(p), lowBytes(plus(p, 1)),
		fromHex(t, "e0eb7a7c3b41b8ae1656e3faf19fc46ada098deb9c32b1fd866205165f49b800"),
		fromHex(t, "5f9c95bca3508c24b1d0b1559c83ef5b04445cc4581c8e86d8224eddd09f1157")}
	for _, u := range lost {
		lost = append(lost, withHighestBit(u, true))
	}
	return lost
}

// isFirstCoordinate asks the curve's equation whether there is a point with this u.
func isFirstCoordinate(u []byte) bool {
	u = withHighestBit(u, false)
	add, mul := impl.FieldAdd, impl.FieldMul
	inner := add(mul(u, add(u, lowNumber(486662))), lowNumber(1))
	return impl.FieldRoot(mul(u, inner)).Good
}

// randomCoordinate is one of a point, or one of none.
func randomCoordinate(r *rand.Rand, ofPoint bool) []byte {
	for {
		if u := randomElement(r); isFirstCoordinate(u) == ofPoint {
			return u
		}
	}
}

func coordinateEdges(t *testing.T) [][]byte {
	t.Helper()
	edges := append(namedCoordinates(), lostCoordinates(t)...)
	return append(append(edges, fieldEdges()...), fieldLimbEdges()...)
}

// checkShared holds LadderShared to what Ladder should answer.
func checkShared(t *testing.T, k []byte, u []byte, want []byte) {
	t.Helper()
	got := impl.LadderShared(k, u)
	if bytes.Equal(want, make([]byte, 32)) {
		want = nil
	}
	if got.Good != (want != nil) {
		t.Errorf("shared of %x and %x: good %v", k, u, got.Good)
	}
	checkList(t, "shared", got.Key, want, k, u)
}

// checkLadder holds the ladder to the library, and answers what it should be.
func checkLadder(t *testing.T, k []byte, u []byte) []byte {
	t.Helper()
	want := libraryLadder(t, k, u)
	checkList(t, "ladder", impl.Ladder(k, u), want, k, u)
	checkShared(t, k, u, want)
	return want
}

func checkLadderAsTold(t *testing.T, k []byte, u []byte) {
	t.Helper()
	want := checkLadder(t, k, u)
	checkList(t, "the told ladder", toldLadder(k, u), want, k, u)
}

func checkClamp(t *testing.T, k []byte) {
	t.Helper()
	want := toldClamp(k)
	got := impl.LadderClamp(k)
	checkList(t, "clamped", got, want, k)
	checkList(t, "clamped twice", impl.LadderClamp(got), want, k)
}

func TestLadderClamp(t *testing.T) {
	all := full(32)
	all[0], all[31] = 248, 127
	checkList(t, "clamped", impl.LadderClamp(full(32)), all, full(32))
	checkList(t, "clamped", impl.LadderClamp(make([]byte, 32)), append(make([]byte, 31), 64), make([]byte, 32))
	for bit := range 256 {
		for _, k := range [][]byte{make([]byte, 32), full(32)} {
			k[bit/8] ^= 1 << (bit % 8)
			checkClamp(t, k)
		}
	}
	r := rand.New(rand.NewSource(17))
	for range 1000 {
		checkClamp(t, randomElement(r))
	}
}

func TestLadderKnownAnswers(t *testing.T) {
	for _, known := range [][3]string{
		{"a546e36bf0527c9d3b16154b82465edd62144c0ac1fc5a18506a2244ba449ac4",
			"e6db6867583030db3594c1a424b15f7c726624ec26b3353b10a903a6d0ab1c4c",
			"c3da55379de9c6908e94ea4df28d084f32eccf03491c71f754b4075577a28552"},
		{"4b66e9d4d1b4673c5ad22691957d6af5c11b6421e0ea01d42ca4169e7918ba0d",
			"e5210f12786811d3f4b7959d0538ae2c31dbe7106fc03c3efc4cd549c715a493",
			"95cbde9476e8907d7aade45cb4b873f88b595a68799fa152e6f8f7647aac7957"},
	} {
		k, u, want := fromHex(t, known[0]), fromHex(t, known[1]), fromHex(t, known[2])
		checkList(t, "ladder", impl.Ladder(k, u), want, k, u)
	}
	k, u := lowNumber(9), lowNumber(9)
	for range 1000 {
		k, u = impl.Ladder(k, u), k
	}
	checkList(t, "ladder, 1000 times", k, fromHex(t, "684cf59ba83309552800ef566f2f4d3c1c3887c49360e3875f2eb94d99532c51"))
}

func TestLadderAsTold(t *testing.T) {
	r := rand.New(rand.NewSource(18))
	for _, u := range coordinateEdges(t) {
		checkLadderAsTold(t, randomElement(r), u)
	}
	for _, k := range ladderKeys() {
		checkLadderAsTold(t, k, lowNumber(9))
		checkLadderAsTold(t, k, randomCoordinate(r, true))
		checkLadderAsTold(t, k, randomCoordinate(r, false))
	}
	for range 200 {
		checkLadderAsTold(t, randomElement(r), randomElement(r))
	}
}

func TestLadderAtAllEdges(t *testing.T) {
	for _, k := range ladderKeys() {
		for _, u := range append(namedCoordinates(), lostCoordinates(t)...) {
			checkLadder(t, k, u)
		}
	}
}

func TestLadderPublic(t *testing.T) {
	r := rand.New(rand.NewSource(19))
	keys := ladderKeys()
	for range 200 {
		keys = append(keys, randomElement(r))
	}
	for _, k := range keys {
		checkList(t, "public", impl.LadderPublic(k), libraryLadder(t, k, lowNumber(9)), k)
		checkList(t, "public", impl.LadderPublic(k), impl.Ladder(k, lowNumber(9)), k)
	}
	// 5 Q - 1 is as it is after its clamp, and takes the base to its negative, which has the same u.
	back := lowBytes(plus(timesQ(5), -1))
	checkList(t, "public", impl.LadderPublic(back), lowNumber(9), back)
}

// checkExchanged asks for promise 6 by the program's own answers.
func checkExchanged(t *testing.T, a []byte, b []byte, u []byte) {
	t.Helper()
	one, other := impl.Ladder(a, impl.Ladder(b, u)), impl.Ladder(b, impl.Ladder(a, u))
	checkList(t, "ladder exchanged", one, other, a, b, u)
	if !impl.FieldCanonical(one) {
		t.Errorf("ladder of %x, %x, %x: %x is not canonical", a, b, u, one)
	}
}

func TestPromise6(t *testing.T) {
	r := rand.New(rand.NewSource(20))
	keys := ladderKeys()
	for _, u := range coordinateEdges(t) {
		checkExchanged(t, randomElement(r), randomElement(r), u)
		checkExchanged(t, keys[r.Intn(len(keys))], keys[r.Intn(len(keys))], u)
	}
	for _, a := range keys {
		checkExchanged(t, a, randomElement(r), lowNumber(9))
		checkExchanged(t, a, keys[r.Intn(len(keys))], randomElement(r))
	}
	for range 200 {
		checkExchanged(t, randomElement(r), randomElement(r), randomElement(r))
		checkExchanged(t, randomElement(r), randomElement(r), randomCoordinate(r, true))
		checkExchanged(t, randomElement(r), randomElement(r), randomCoordinate(r, false))
	}
}

func TestPromise6TwoEnds(t *testing.T) {
	r := rand.New(rand.NewSource(21))
	keys := ladderKeys()
	for range 200 {
		keys = append(keys, randomElement(r))
	}
	for i, a := range keys {
		b := keys[(i+1+r.Intn(len(keys)-1))%len(keys)]
		one, other := impl.LadderShared(a, impl.LadderPublic(b)), impl.LadderShared(b, impl.LadderPublic(a))
		if !one.Good || !other.Good {
			t.Errorf("ends with %x and %x: good %v and %v", a, b, one.Good, other.Good)
		}
		checkList(t, "shared by two ends", one.Key, other.Key, a, b)
		checkList(t, "shared by two ends", one.Key, libraryLadder(t, a, libraryLadder(t, b, lowNumber(9))), a, b)
	}
}

func TestLadderLeavesNothing(t *testing.T) {
	r := rand.New(rand.NewSource(22))
	zero := make([]byte, 32)
	for _, u := range lostCoordinates(t) {
		keys := ladderKeys()
		for range 20 {
			keys = append(keys, randomElement(r))
		}
		for _, k := range keys {
			checkList(t, "ladder", impl.Ladder(k, u), zero, k, u)
			checkShared(t, k, u, zero)
		}
		checkExchanged(t, keys[0], randomElement(r), u)
	}
}

func TestLadderOfClampedKey(t *testing.T) {
	r := rand.New(rand.NewSource(23))
	for _, k := range append(ladderKeys(), randomElement(r), randomElement(r)) {
		clamped := impl.LadderClamp(k)
		for _, u := range [][]byte{lowNumber(9), randomElement(r)} {
			want := impl.Ladder(k, u)
			checkList(t, "ladder of the clamped key", impl.Ladder(clamped, u), want, k, u)
			checkList(t, "shared of the clamped key", impl.LadderShared(clamped, u).Key, impl.LadderShared(k, u).Key, k, u)
		}
		checkList(t, "public of the clamped key", impl.LadderPublic(clamped), impl.LadderPublic(k), k)
	}
}

// Each bit of a key counts, but for those that the clamp decides.
func TestLadderBitsOfKey(t *testing.T) {
	r := rand.New(rand.NewSource(24))
	k, u := randomElement(r), randomElement(r)
	want := impl.Ladder(k, u)
	for bit := range 256 {
		other := bytes.Clone(k)
		other[bit/8] ^= 1 << (bit % 8)
		decided := bit < 3 || bit > 253
		if bytes.Equal(impl.Ladder(other, u), want) != decided {
			t.Errorf("ladder of %x and %x: bit %d of the key is decided by the clamp: want %v", k, u, bit, decided)
		}
		checkLadder(t, other, u)
	}
}

func TestLadderHighestBitOfCoordinate(t *testing.T) {
	r := rand.New(rand.NewSource(25))
	coordinates := coordinateEdges(t)
	for range 100 {
		coordinates = append(coordinates, randomElement(r))
	}
	for _, u := range coordinates {
		k, without, with := randomElement(r), withHighestBit(u, false), withHighestBit(u, true)
		want := libraryLadder(t, k, without)
		for _, v := range [][]byte{without, with} {
			checkList(t, "ladder", impl.Ladder(k, v), want, k, v)
			checkShared(t, k, v, want)
		}
	}
}

// All numbers of 255 bits from P on, with the highest bit and without it, are their rests modulo P.
func TestLadderCoordinatesFromP(t *testing.T) {
	r := rand.New(rand.NewSource(26))
	for n := range int64(19) {
		u := lowBytes(plus(fieldP(), n))
		for _, k := range [][]byte{make([]byte, 32), full(32), randomElement(r), randomElement(r)} {
			want := impl.Ladder(k, lowNumber(n))
			for _, v := range [][]byte{u, withHighestBit(u, true)} {
				checkList(t, "ladder of a rest", impl.Ladder(k, v), want, k, v)
				checkShared(t, k, v, want)
			}
			checkLadder(t, k, u)
		}
	}
}

func checkNoLadder(t *testing.T, k []byte, u []byte) {
	t.Helper()
	if got := impl.Ladder(k, u); len(got) != 0 {
		t.Errorf("ladder of %x and %x: got %x", k, u, got)
	}
	if got := impl.LadderShared(k, u); got.Good || len(got.Key) != 0 {
		t.Errorf("shared of %x and %x: got %v %x", k, u, got.Good, got.Key)
	}
}

func TestLadderOtherLengths(t *testing.T) {
	r := rand.New(rand.NewSource(27))
	lists := listsNotOf32(r)
	for _, a := range listsUpTo(r, 70) {
		if len(a) != 32 {
			lists = append(lists, a)
		}
	}
	for _, a := range lists {
		for _, good := range [][]byte{randomElement(r), lowNumber(0), lowNumber(9)} {
			checkNoLadder(t, a, good)
			checkNoLadder(t, good, a)
		}
		checkNoLadder(t, a, a)
		if got := impl.LadderClamp(a); len(got) != 0 {
			t.Errorf("clamped %x: got %x", a, got)
		}
		if got := impl.LadderPublic(a); len(got) != 0 {
			t.Errorf("public of %x: got %x", a, got)
		}
	}
}

func TestLadderMemory(t *testing.T) {
	shared := func(args [][]byte) [][]byte { return [][]byte{impl.LadderShared(args[0], args[1]).Key} }
	// The answers of all calls at once: none shares memory with another.
	all := func(args [][]byte) [][]byte {
		k, u := args[0], args[1]
		return [][]byte{impl.LadderClamp(k), impl.LadderClamp(u), impl.LadderPublic(k), impl.LadderPublic(u), impl.Ladder(k, u),
			impl.Ladder(k, u), impl.LadderShared(k, u).Key, impl.LadderShared(k, u).Key, impl.Ladder(k, lowNumber(0))}
	}
	r := rand.New(rand.NewSource(28))
	lists := append(namedCoordinates(), lostCoordinates(t)...)
	lists = append(lists, nil, []byte{7}, randomElement(r), randomList(r, 31), randomList(r, 33), randomList(r, 64), randomList(r, 65))
	for _, a := range lists {
		checkMemory(t, "clamped", ofOneList(impl.LadderClamp), a)
		checkMemory(t, "public", ofOneList(impl.LadderPublic), a)
		for _, b := range [][]byte{a, lowNumber(0), lowNumber(9), randomElement(r)} {
			for _, args := range [][2][]byte{{a, b}, {b, a}} {
				checkMemory(t, "ladder", ofTwoLists(impl.Ladder), args[0], args[1])
				checkMemory(t, "shared", shared, args[0], args[1])
				checkMemory(t, "all calls", all, args[0], args[1])
			}
		}
	}
}

// One list as both arguments, and two that overlap: what is read of the one must not be touched by the other.
func TestLadderFromOneList(t *testing.T) {
	r := rand.New(rand.NewSource(29))
	for range 50 {
		one := randomList(r, 50)
		before := bytes.Clone(one)
		checkLadder(t, one[:32], one[:32])
		checkLadder(t, one[:32], one[18:])
		checkLadder(t, one[18:], one[:32])
		checkLadder(t, one[:32], one[1:33])
		checkList(t, "argument", one, before)
	}
}
