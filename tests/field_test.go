package tests

import (
	"bytes"
	"math/big"
	"math/rand"
	"slices"
	"testing"

	"loop.example/g00004/impl"
)

// The library's numbers are what the answers of chapter 2 are held against.

func powerOf2(n uint) *big.Int {
	return new(big.Int).Lsh(big.NewInt(1), n)
}

func plus(a *big.Int, n int64) *big.Int {
	return new(big.Int).Add(a, big.NewInt(n))
}

// fieldP is 2^255 - 19.
func fieldP() *big.Int {
	return plus(powerOf2(255), -19)
}

func turned(a []byte) []byte {
	b := bytes.Clone(a)
	slices.Reverse(b)
	return b
}

// bigOfLow is the number of bytes of which the lowest comes first.
func bigOfLow(a []byte) *big.Int {
	return bigOf(turned(a))
}

// lowBytes tells a number of at most 256 bits as 32 bytes, the lowest first.
func lowBytes(n *big.Int) []byte {
	return turned(n.FillBytes(make([]byte, 32)))
}

func lowNumber(n int64) []byte {
	return lowBytes(big.NewInt(n))
}

// elementOf tells the number modulo P.
func elementOf(n *big.Int) []byte {
	return lowBytes(new(big.Int).Mod(n, fieldP()))
}

// fieldEdges are 32 bytes at and around all places where a number comes round.
func fieldEdges() [][]byte {
	p, twice := fieldP(), new(big.Int).Lsh(fieldP(), 1)
	var edges [][]byte
	for _, n := range []int64{0, 1, 2, 3, 4, 18, 19, 20, 37, 38} {
		edges = append(edges, lowNumber(n))
	}
	for _, n := range []int64{-19, -2, -1, 0, 1, 2, 18, 19} {
		edges = append(edges, lowBytes(plus(p, n)))
		edges = append(edges, lowBytes(plus(twice, n)))
	}
	edges = append(edges, lowBytes(plus(twice, 37)))
	for _, n := range []int64{-1, 0, 1} {
		edges = append(edges, lowBytes(plus(powerOf2(255), n)))
		edges = append(edges, lowBytes(plus(powerOf2(254), n)))
		edges = append(edges, lowBytes(plus(new(big.Int).Rsh(p, 1), n)))
	}
	root := new(big.Int).Exp(big.NewInt(2), new(big.Int).Rsh(p, 2), p)
	return append(edges, lowBytes(root), lowBytes(new(big.Int).Sub(p, root)))
}

// limbEdges have each limb, and the bit above them all, either 0 or as great as it can be, for limbs of the given bits;
// with less, all limbs that are great are one less.
func limbEdges(places []uint, less int64) [][]byte {
	var edges [][]byte
	for choice := range 1 << (len(places) - 1) {
		n := new(big.Int)
		for i := range len(places) - 1 {
			if choice>>i&1 == 1 {
				limb := plus(powerOf2(places[i+1]-places[i]), -1-less)
				n.Add(n, limb.Lsh(limb, places[i]))
			}
		}
		edges = append(edges, lowBytes(n))
	}
	return edges
}

func fieldLimbEdges() [][]byte {
	return append(limbEdges([]uint{0, 51, 102, 153, 204, 255, 256}, 0), limbEdges([]uint{0, 51, 102, 153, 204, 255}, 1)...)
}

func randomElement(r *rand.Rand) []byte {
	if r.Intn(3) == 0 {
		return randomNum(r, 32)
	}
	return randomList(r, 32)
}

// listsUpTo are lists of each length below limit.
func listsUpTo(r *rand.Rand, limit int) [][]byte {
	lists := [][]byte{nil, {}}
	for n := 1; n < limit; n++ {
		lists = append(lists, make([]byte, n), full(n), randomList(r, n), randomNum(r, n))
		lists = append(lists, append(make([]byte, n-1), 1), append(make([]byte, n-1), 128))
	}
	return lists
}

// listsNotOf32 are lists of lengths at and around all that a function might take for 32.
func listsNotOf32(r *rand.Rand) [][]byte {
	lists := [][]byte{nil, {}}
	for _, n := range []int{1, 16, 31, 33, 34, 63, 64, 65, 200} {
		lists = append(lists, make([]byte, n), full(n), randomList(r, n))
	}
	return lists
}

func checkList(t *testing.T, what string, got []byte, want []byte, args ...[]byte) {
	t.Helper()
	if !bytes.Equal(got, want) {
		t.Errorf("%s of %x: got %x, want %x", what, args, got, want)
	}
}

func checkFieldPair(t *testing.T, a []byte, b []byte) {
	t.Helper()
	x, y := bigOfLow(a), bigOfLow(b)
	checkList(t, "sum", impl.FieldAdd(a, b), elementOf(new(big.Int).Add(x, y)), a, b)
	checkList(t, "difference", impl.FieldSub(a, b), elementOf(new(big.Int).Sub(x, y)), a, b)
	checkList(t, "product", impl.FieldMul(a, b), elementOf(new(big.Int).Mul(x, y)), a, b)
}

func checkCanonical(t *testing.T, a []byte) {
	t.Helper()
	want := len(a) == 32 && bigOfLow(a).Cmp(fieldP()) < 0
	if got := impl.FieldCanonical(a); got != want {
		t.Errorf("canonical %x: got %v, want %v", a, got, want)
	}
}

func checkReduce(t *testing.T, a []byte) {
	t.Helper()
	var want []byte
	if len(a) >= 1 && len(a) <= 64 {
		want = elementOf(bigOfLow(a))
	}
	checkList(t, "reduced", impl.FieldReduce(a), want, a)
}

func checkInvert(t *testing.T, a []byte) {
	t.Helper()
	x := new(big.Int).Mod(bigOfLow(a), fieldP())
	want := make([]byte, 32)
	if x.Sign() != 0 {
		want = lowBytes(x.ModInverse(x, fieldP()))
	}
	checkList(t, "inverse", impl.FieldInvert(a), want, a)
}

// checkRoot holds FieldRoot against the library, also at the other 32 bytes that stand for the same element.
func checkRoot(t *testing.T, a []byte) {
	t.Helper()
	x := new(big.Int).Mod(bigOfLow(a), fieldP())
	root := new(big.Int).ModSqrt(x, fieldP())
	var want []byte
	if root != nil {
		if root.Bit(0) == 1 {
			root.Sub(fieldP(), root)
		}
		want = lowBytes(root)
	}
	for x.BitLen() <= 256 {
		got := impl.FieldRoot(lowBytes(x))
		if got.Good != (root != nil) {
			t.Errorf("root of %x: good %v", lowBytes(x), got.Good)
		}
		checkList(t, "root", got.Root, want, lowBytes(x))
		x.Add(x, fieldP())
	}
}

func TestFieldEdges(t *testing.T) {
	for _, a := range fieldEdges() {
		checkCanonical(t, a)
		checkReduce(t, a)
		checkInvert(t, a)
		checkRoot(t, a)
		for _, b := range fieldEdges() {
			checkFieldPair(t, a, b)
		}
	}
}

func TestFieldGreatLimbs(t *testing.T) {
	all := fieldLimbEdges()
	for _, a := range all {
		checkCanonical(t, a)
		checkReduce(t, a)
		checkInvert(t, a)
		checkRoot(t, a)
		for _, b := range all {
			checkFieldPair(t, a, b)
		}
	}
	// Ten limbs of 25 and 26 bits have their own greatest values.
	tens := limbEdges([]uint{0, 26, 51, 77, 102, 128, 153, 179, 204, 230, 255, 256}, 0)
	for i, a := range tens {
		checkFieldPair(t, a, a)
		checkFieldPair(t, a, tens[len(tens)-1-i])
		checkFieldPair(t, a, elementOf(big.NewInt(-1)))
	}
}

func TestFieldRandom(t *testing.T) {
	r := rand.New(rand.NewSource(2))
	for range 1000 {
		a, b := randomElement(r), randomElement(r)
		checkFieldPair(t, a, b)
		checkCanonical(t, a)
		checkInvert(t, a)
		checkRoot(t, a)
		checkRoot(t, impl.FieldMul(b, b))
	}
}

func TestFieldCanonicalLengths(t *testing.T) {
	r := rand.New(rand.NewSource(3))
	for _, a := range listsUpTo(r, 70) {
		checkCanonical(t, a)
	}
	// The bit above the 255 counts as any other.
	checkCanonical(t, append(make([]byte, 31), 128))
	checkCanonical(t, append(make([]byte, 31), 127))
	for _, n := range []int64{-300, -20, -2, -1, 0, 1, 2, 17, 18, 19} {
		checkCanonical(t, lowBytes(plus(fieldP(), n)))
	}
}

func TestFieldReduceLengths(t *testing.T) {
	r := rand.New(rand.NewSource(4))
	for _, a := range listsUpTo(r, 130) {
		checkReduce(t, a)
	}
	for _, low := range fieldEdges() {
		for _, high := range fieldEdges() {
			checkReduce(t, append(bytes.Clone(low), high...))
		}
	}
}

// checkFieldLaws asks for promise 3 by the program's own answers.
func checkFieldLaws(t *testing.T, a []byte, b []byte, c []byte) {
	t.Helper()
	add, sub, mul := impl.FieldAdd, impl.FieldSub, impl.FieldMul
	checkList(t, "sum exchanged", add(a, b), add(b, a), a, b)
	checkList(t, "product exchanged", mul(a, b), mul(b, a), a, b)
	checkList(t, "sum grouped", add(add(a, b), c), add(a, add(b, c)), a, b, c)
	checkList(t, "product grouped", mul(mul(a, b), c), mul(a, mul(b, c)), a, b, c)
	checkList(t, "product with a sum", mul(a, add(b, c)), add(mul(a, b), mul(a, c)), a, b, c)
	checkList(t, "sum undone", sub(add(a, b), b), impl.FieldReduce(a), a, b)
	for _, answer := range [][]byte{add(a, b), sub(a, b), mul(a, b), impl.FieldInvert(a), impl.FieldReduce(a)} {
		if !impl.FieldCanonical(answer) {
			t.Errorf("%x, %x: %x is not canonical", a, b, answer)
		}
	}
	if bytes.Equal(impl.FieldReduce(a), make([]byte, 32)) {
		checkList(t, "inverse of 0", impl.FieldInvert(a), make([]byte, 32), a)
	} else {
		checkList(t, "product with the inverse", mul(a, impl.FieldInvert(a)), lowNumber(1), a)
	}
}

func TestPromise3(t *testing.T) {
	r := rand.New(rand.NewSource(5))
	edges := fieldEdges()
	for _, a := range edges {
		for _, b := range edges {
			checkFieldLaws(t, a, b, edges[r.Intn(len(edges))])
			checkFieldLaws(t, a, b, randomElement(r))
		}
	}
	for range 1000 {
		checkFieldLaws(t, randomElement(r), randomElement(r), randomElement(r))
	}
}

// checkFieldRoots asks for promise 4 by the program's own answers.
func checkFieldRoots(t *testing.T, a []byte) {
	t.Helper()
	square := impl.FieldMul(a, a)
	got := impl.FieldRoot(square)
	if !got.Good || !impl.FieldCanonical(got.Root) || got.Root[0]&1 == 1 {
		t.Errorf("root of the square of %x: %v %x", a, got.Good, got.Root)
		return
	}
	checkList(t, "square of the root", impl.FieldMul(got.Root, got.Root), square, a)
	if bytes.Equal(impl.FieldReduce(a), make([]byte, 32)) {
		return
	}
	double := impl.FieldAdd(a, a)
	one, other := impl.FieldRoot(a), impl.FieldRoot(double)
	if one.Good == other.Good {
		t.Errorf("%x and twice that: roots %v and %v", a, one.Good, other.Good)
	}
	if !one.Good && len(one.Root) != 0 || !other.Good && len(other.Root) != 0 {
		t.Errorf("%x or twice that: a root beside false", a)
	}
}

func TestPromise4(t *testing.T) {
	r := rand.New(rand.NewSource(6))
	for _, a := range append(fieldEdges(), fieldLimbEdges()...) {
		checkFieldRoots(t, a)
	}
	for range 1000 {
		checkFieldRoots(t, randomElement(r))
	}
	checkList(t, "root", impl.FieldRoot(lowNumber(0)).Root, lowNumber(0), lowNumber(0))
	checkList(t, "root", impl.FieldRoot(lowNumber(1)).Root, elementOf(big.NewInt(-1)), lowNumber(1))
	checkList(t, "root", impl.FieldRoot(lowNumber(4)).Root, lowNumber(2), lowNumber(4))
	checkList(t, "root", impl.FieldRoot(lowNumber(9)).Root, elementOf(big.NewInt(-3)), lowNumber(9))
}

func TestFieldOtherLengths(t *testing.T) {
	r := rand.New(rand.NewSource(7))
	good := randomElement(r)
	two := []func(a []byte, b []byte) []byte{impl.FieldAdd, impl.FieldSub, impl.FieldMul}
	for _, a := range listsNotOf32(r) {
		for i, call := range two {
			for _, args := range [][2][]byte{{a, good}, {good, a}, {a, a}} {
				if got := call(args[0], args[1]); len(got) != 0 {
					t.Errorf("call %d of %x: got %x", i, args, got)
				}
			}
		}
		if got := impl.FieldInvert(a); len(got) != 0 {
			t.Errorf("inverse of %x: got %x", a, got)
		}
		if got := impl.FieldRoot(a); got.Good || len(got.Root) != 0 {
			t.Errorf("root of %x: got %v %x", a, got.Good, got.Root)
		}
	}
}

func TestFieldMemory(t *testing.T) {
	canonical := func(args [][]byte) [][]byte {
		impl.FieldCanonical(args[0])
		return nil
	}
	root := func(args [][]byte) [][]byte { return [][]byte{impl.FieldRoot(args[0]).Root} }
	r := rand.New(rand.NewSource(8))
	lists := append(fieldEdges(), nil, []byte{7}, randomList(r, 31), randomList(r, 33), randomList(r, 64), randomList(r, 65))
	for _, a := range lists {
		checkMemory(t, "canonical", canonical, a)
		checkMemory(t, "reduced", ofOneList(impl.FieldReduce), a)
		checkMemory(t, "inverse", ofOneList(impl.FieldInvert), a)
		checkMemory(t, "root", root, a)
		for _, b := range [][]byte{a, lowNumber(0), lowNumber(1), randomElement(r)} {
			for _, args := range [][2][]byte{{a, b}, {b, a}} {
				checkMemory(t, "sum", ofTwoLists(impl.FieldAdd), args[0], args[1])
				checkMemory(t, "difference", ofTwoLists(impl.FieldSub), args[0], args[1])
				checkMemory(t, "product", ofTwoLists(impl.FieldMul), args[0], args[1])
			}
		}
	}
}

// One list as both arguments: what is read of the one must not be touched by the other.
func TestFieldSameListTwice(t *testing.T) {
	for _, a := range fieldEdges() {
		before := bytes.Clone(a)
		checkFieldPair(t, a, a)
		checkList(t, "argument", a, before)
	}
}
