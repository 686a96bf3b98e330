package tests

import (
	"bytes"
	"crypto/ed25519"
	"crypto/sha512"
	"math/big"
	"math/rand"
	"slices"
	"testing"

	"loop.example/g00004/impl"
)

// The words of chapter 5, done by the calls of chapter 2 alone, are what the points are held against; the library's
// public keys are a second measure.

// curveD is -121665 times the inverse of 121666.
func curveD() []byte {
	return impl.FieldMul(elementOf(big.NewInt(-121665)), impl.FieldInvert(lowNumber(121666)))
}

func negative(a []byte) []byte {
	return impl.FieldSub(lowNumber(0), a)
}

func quotient(a []byte, b []byte) []byte {
	return impl.FieldMul(a, impl.FieldInvert(b))
}

func toldSum(p impl.Point, q impl.Point) impl.Point {
	add, sub, mul, one := impl.FieldAdd, impl.FieldSub, impl.FieldMul, lowNumber(1)
	xy, yx, yy, xx := mul(p.X, q.Y), mul(p.Y, q.X), mul(p.Y, q.Y), mul(p.X, q.X)
	product := mul(curveD(), mul(xx, yy))
	return impl.Point{X: quotient(add(xy, yx), add(one, product)), Y: quotient(add(yy, xx), sub(one, product))}
}

func toldNegative(p impl.Point) impl.Point {
	return impl.Point{X: negative(p.X), Y: p.Y}
}

func toldValid(p impl.Point) bool {
	if !impl.FieldCanonical(p.X) || !impl.FieldCanonical(p.Y) {
		return false
	}
	xx, yy := impl.FieldMul(p.X, p.X), impl.FieldMul(p.Y, p.Y)
	right := impl.FieldAdd(lowNumber(1), impl.FieldMul(curveD(), impl.FieldMul(xx, yy)))
	return bytes.Equal(impl.FieldSub(yy, xx), right)
}

func toldForm(p impl.Point) []byte {
	return withHighestBit(p.Y, p.X[0]%2 == 1)
}

func toldCoordinate(p impl.Point) []byte {
	return quotient(impl.FieldAdd(lowNumber(1), p.Y), impl.FieldSub(lowNumber(1), p.Y))
}

// toldPoint looks for a valid point with these 32 bytes as its form: of the equation, x^2 is (y^2 - 1) / (D y^2 + 1).
func toldPoint(b []byte) (impl.Point, bool) {
	y := withHighestBit(b, false)
	yy := impl.FieldMul(y, y)
	root := impl.FieldRoot(quotient(impl.FieldSub(yy, lowNumber(1)), impl.FieldAdd(impl.FieldMul(curveD(), yy), lowNumber(1))))
	if !root.Good {
		return impl.Point{}, false
	}
	for _, x := range [][]byte{root.Root, negative(root.Root)} {
		p := impl.Point{X: x, Y: y}
		if toldValid(p) && bytes.Equal(toldForm(p), b) {
			return p, true
		}
	}
	return impl.Point{}, false
}

func mustPoint(t *testing.T, b []byte) impl.Point {
	t.Helper()
	p, good := toldPoint(b)
	if !good {
		t.Fatalf("%x is the form of no point", b)
	}
	return p
}

func zeroPoint() impl.Point {
	return impl.Point{X: lowNumber(0), Y: lowNumber(1)}
}

// basePoint has 4 / 5 as its Y and an even X.
func basePoint(t *testing.T) impl.Point {
	t.Helper()
	return mustPoint(t, quotient(lowNumber(4), lowNumber(5)))
}

// smallPoints are the eight of which eight times the point is zero: zero, the one of order 2, two of order 4, and four of
// order 8.
func smallPoints(t *testing.T) []impl.Point {
	t.Helper()
	small := []impl.Point{zeroPoint(), mustPoint(t, lowBytes(plus(fieldP(), -1)))}
	for _, text := range []string{
		"0000000000000000000000000000000000000000000000000000000000000000",
		"26e8958fc2b227b045c3f489f2ef98f0d5dfac05d3c63339b13802886d53fc05",
		"c7176a703d4dd84fba3c0b760d10670f2a2053fa2c39ccc64ec7fd7792ac037a",
	} {
		y := fromHex(t, text)
		small = append(small, mustPoint(t, y), mustPoint(t, withHighestBit(y, true)))
	}
	return small
}

// randomPoint is of any order: what a random Y has.
func randomPoint(r *rand.Rand) impl.Point {
	for {
		if p, good := toldPoint(randomElement(r)); good {
			return p
		}
	}
}

func randomPoints(r *rand.Rand, n int) []impl.Point {
	var points []impl.Point
	for range n {
		points = append(points, randomPoint(r))
	}
	return points
}

// edgePoints are those whose Y is at an edge of the field or of its limbs, with both X.
func edgePoints() []impl.Point {
	var points []impl.Point
	for _, y := range append(fieldEdges(), fieldLimbEdges()...) {
		for _, odd := range []bool{false, true} {
			if p, good := toldPoint(withHighestBit(y, odd)); good && !slices.ContainsFunc(points, sameAs(p)) {
				points = append(points, p)
			}
		}
	}
	return points
}

// namedPoints are the small ones, the base and two ordinary ones with their negatives and doubles, and each of these
// three with each small one more.
func namedPoints(t *testing.T, r *rand.Rand) []impl.Point {
	t.Helper()
	small := smallPoints(t)
	named := slices.Clone(small)
	for _, p := range append(randomPoints(r, 2), basePoint(t)) {
		named = append(named, toldNegative(p), toldSum(p, p), toldNegative(toldSum(p, p)))
		for _, q := range small {
			named = append(named, toldSum(p, q))
		}
	}
	return named
}

func samePoint(p impl.Point, q impl.Point) bool {
	return bytes.Equal(p.X, q.X) && bytes.Equal(p.Y, q.Y)
}

func sameAs(p impl.Point) func(q impl.Point) bool {
	return func(q impl.Point) bool { return samePoint(p, q) }
}

func checkPoint(t *testing.T, what string, got impl.Point, want impl.Point, args ...any) {
	t.Helper()
	if !samePoint(got, want) {
		t.Errorf("%s of %x: got %x, want %x", what, args, got, want)
	}
}

// checkSum also asks that the answer is a valid point.
func checkSum(t *testing.T, p impl.Point, q impl.Point) {
	t.Helper()
	got := impl.PointAdd(p, q)
	checkPoint(t, "sum", got, toldSum(p, q), p, q)
	checkPoint(t, "sum exchanged", impl.PointAdd(q, p), got, p, q)
	if !impl.PointValid(got) {
		t.Errorf("sum of %x and %x: %x is not valid", p, q, got)
	}
}

func checkGrouped(t *testing.T, p impl.Point, q impl.Point, s impl.Point) {
	t.Helper()
	one, other := impl.PointAdd(impl.PointAdd(p, q), s), impl.PointAdd(p, impl.PointAdd(q, s))
	checkPoint(t, "sum grouped", one, other, p, q, s)
}

// checkAlone asks what is promised of one point: zero, its negative, and itself once more.
func checkAlone(t *testing.T, p impl.Point) {
	t.Helper()
	if !impl.PointValid(p) {
		t.Errorf("%x is not valid", p)
	}
	zero, back := impl.PointZero(), impl.PointNegate(p)
	checkPoint(t, "negative", back, toldNegative(p), p)
	checkPoint(t, "negative of the negative", impl.PointNegate(back), p, p)
	checkPoint(t, "sum with zero", impl.PointAdd(p, zero), p, p)
	checkPoint(t, "sum of zero", impl.PointAdd(zero, p), p, p)
	checkPoint(t, "sum with the negative", impl.PointAdd(p, back), zero, p)
	checkPoint(t, "sum of the negative", impl.PointAdd(back, p), zero, p)
	checkSum(t, p, p)
	checkSum(t, p, back)
	checkSum(t, p, zero)
}

func TestPointZeroAndBase(t *testing.T) {
	checkPoint(t, "zero", impl.PointZero(), zeroPoint())
	base := impl.PointBase()
	checkPoint(t, "base", base, basePoint(t))
	checkList(t, "5 Y", impl.FieldMul(base.Y, lowNumber(5)), lowNumber(4))
	if base.X[0]%2 != 0 || !toldValid(base) {
		t.Errorf("base: got %x", base)
	}
	if impl.FieldRoot(curveD()).Good {
		t.Error("D is a square")
	}
}

func TestPointSmallOnes(t *testing.T) {
	small := smallPoints(t)
	for i, p := range small {
		if slices.IndexFunc(small, sameAs(p)) != i {
			t.Errorf("%x stands among the small ones twice", p)
		}
		eight := p
		for range 3 {
			eight = impl.PointAdd(eight, eight)
		}
		checkPoint(t, "eight times", eight, zeroPoint(), p)
		checkAlone(t, p)
	}
}

func TestPromise7SmallPoints(t *testing.T) {
	small := smallPoints(t)
	for _, p := range small {
		for _, q := range small {
			checkSum(t, p, q)
			if !slices.ContainsFunc(small, sameAs(impl.PointAdd(p, q))) {
				t.Errorf("sum of %x and %x: not a small one", p, q)
			}
			for _, s := range small {
				checkGrouped(t, p, q, s)
			}
		}
	}
}

func TestPromise7NamedPoints(t *testing.T) {
	r := rand.New(rand.NewSource(30))
	named := namedPoints(t, r)
	for _, p := range named {
		checkAlone(t, p)
		for _, q := range named {
			checkSum(t, p, q)
			checkGrouped(t, p, q, named[r.Intn(len(named))])
		}
	}
}

func TestPromise7EdgePoints(t *testing.T) {
	r := rand.New(rand.NewSource(31))
	points := edgePoints()
	for _, p := range points {
		checkAlone(t, p)
		q, s := points[r.Intn(len(points))], randomPoint(r)
		checkSum(t, p, q)
		checkSum(t, p, s)
		checkGrouped(t, p, q, s)
		checkGrouped(t, s, p, p)
		checkGrouped(t, p, impl.PointNegate(p), q)
	}
}

func TestPromise7OrdinaryPoints(t *testing.T) {
	r := rand.New(rand.NewSource(32))
	small := smallPoints(t)
	for range 300 {
		p, q, s := randomPoint(r), randomPoint(r), randomPoint(r)
		checkAlone(t, p)
		checkSum(t, p, q)
		checkGrouped(t, p, q, s)
		checkGrouped(t, p, p, q)
		checkGrouped(t, p, q, impl.PointNegate(q))
		more := small[r.Intn(len(small))]
		checkSum(t, p, more)
		checkSum(t, p, impl.PointAdd(p, more))
		checkSum(t, p, impl.PointAdd(impl.PointNegate(p), more))
		checkGrouped(t, p, more, q)
	}
}

// doubles are the point scaled by all powers of 2 below 2^256, by PointAdd alone.
func doubles(p impl.Point) []impl.Point {
	all := []impl.Point{p}
	for i := range 255 {
		all = append(all, impl.PointAdd(all[i], all[i]))
	}
	return all
}

// addedDoubles is the sum of those whose bits k has.
func addedDoubles(k []byte, all []impl.Point) impl.Point {
	sum := impl.PointZero()
	for i, p := range all {
		if k[i/8]>>(i%8)&1 == 1 {
			sum = impl.PointAdd(sum, p)
		}
	}
	return sum
}

// namedNumbers are 0, 1, 2, 8, Q - 1, Q, Q + 1, 2^255 and 2^256 - 1.
func namedNumbers() [][]byte {
	numbers := [][]byte{lowNumber(0), lowNumber(1), lowNumber(2), lowNumber(8), lowBytes(powerOf2(255)), full(32)}
	return append(numbers, neighbours(orderQ(), 1)...)
}

// digitNumbers have one digit of four bits alone, or all digits but one as great as they can be.
func digitNumbers(r *rand.Rand) [][]byte {
	var numbers [][]byte
	for place := range uint(64) {
		digit := new(big.Int).Lsh(big.NewInt(1+r.Int63n(15)), 4*place)
		numbers = append(numbers, lowBytes(digit), lowBytes(digit.Sub(plus(powerOf2(256), -1), digit)))
	}
	return numbers
}

func scalingPoints(t *testing.T, r *rand.Rand) []impl.Point {
	t.Helper()
	points := append(smallPoints(t), basePoint(t), toldNegative(basePoint(t)), toldSum(basePoint(t), smallPoints(t)[7]))
	return append(points, randomPoints(r, 3)...)
}

func TestPointScaleAsOftenAsTold(t *testing.T) {
	r := rand.New(rand.NewSource(33))
	for _, p := range append(namedPoints(t, r), randomPoints(r, 3)...) {
		sum := impl.PointZero()
		for k := range int64(35) {
			checkPoint(t, "scaled", impl.PointScale(lowNumber(k), p), sum, k, p)
			sum = impl.PointAdd(sum, p)
		}
	}
}

func TestPointScaleByRepeatedSums(t *testing.T) {
	r := rand.New(rand.NewSource(34))
	for _, p := range scalingPoints(t, r) {
		all := doubles(p)
		numbers := append(namedNumbers(), randomElement(r), randomElement(r), randomList(r, 32), bytes.Repeat([]byte{0x5a}, 32))
		for _, k := range numbers {
			got := impl.PointScale(k, p)
			checkPoint(t, "scaled", got, addedDoubles(k, all), k, p)
			if !impl.PointValid(got) {
				t.Errorf("%x scaled by %x: %x is not valid", p, k, got)
			}
		}
	}
}

func TestPointScaleByEachBitAndDigit(t *testing.T) {
	r := rand.New(rand.NewSource(35))
	for _, p := range []impl.Point{basePoint(t), randomPoint(r)} {
		all := doubles(p)
		for i, double := range all {
			k := lowBytes(powerOf2(uint(i)))
			checkPoint(t, "scaled", impl.PointScale(k, p), double, k, p)
		}
		for _, k := range digitNumbers(r) {
			checkPoint(t, "scaled", impl.PointScale(k, p), addedDoubles(k, all), k, p)
		}
	}
}

// numberModulo tells the number of k modulo m.
func numberModulo(k []byte, m *big.Int) []byte {
	n := bigOfLow(k)
	return lowBytes(n.Mod(n, m))
}

// The base comes round at Q, a small point at 8, and any point at 8 Q.
func TestPointScaleComesRound(t *testing.T) {
	r := rand.New(rand.NewSource(36))
	small := smallPoints(t)
	for _, k := range append(orderManyEdges(), ladderKeys()...) {
		p, q, base := randomPoint(r), small[r.Intn(len(small))], impl.PointBase()
		checkPoint(t, "base scaled", impl.PointScale(k, base), impl.PointScale(numberModulo(k, orderQ()), base), k)
		checkPoint(t, "base scaled", impl.PointScale(k, base), impl.PointScale(impl.OrderReduce(k), base), k)
		checkPoint(t, "small one scaled", impl.PointScale(k, q), impl.PointScale(numberModulo(k, big.NewInt(8)), q), k, q)
		checkPoint(t, "scaled", impl.PointScale(k, p), impl.PointScale(numberModulo(k, timesQ(8)), p), k, p)
	}
}

func TestPromise7BaseScaledByOrder(t *testing.T) {
	zero, base := impl.PointZero(), impl.PointBase()
	checkPoint(t, "base scaled by Q", impl.PointScale(impl.OrderBytes(), base), zero)
	checkPoint(t, "base scaled by Q - 1", impl.PointScale(lowBytes(plus(orderQ(), -1)), base), impl.PointNegate(base))
	checkPoint(t, "base scaled by Q + 1", impl.PointScale(lowBytes(plus(orderQ(), 1)), base), base)
	for n := int64(0); n <= 15; n++ {
		checkPoint(t, "base scaled by a multiple of Q", impl.PointScale(lowBytes(timesQ(n)), base), zero, n)
	}
	// What is left of any point then is a small one, and Q times the base with a small one more is 5 times that.
	r := rand.New(rand.NewSource(37))
	small := smallPoints(t)
	for _, q := range small {
		five := impl.PointScale(lowNumber(5), q)
		checkPoint(t, "scaled by Q", impl.PointScale(impl.OrderBytes(), impl.PointAdd(base, q)), five, q)
	}
	for _, p := range randomPoints(r, 50) {
		if left := impl.PointScale(impl.OrderBytes(), p); !slices.ContainsFunc(small, sameAs(left)) {
			t.Errorf("%x scaled by Q: %x is no small one", p, left)
		}
	}
}

// checkScalesAdded holds k and l, of which the sum has 256 bits, to promise 7.
func checkScalesAdded(t *testing.T, k *big.Int, l *big.Int, p impl.Point) {
	t.Helper()
	sum := impl.PointAdd(impl.PointScale(lowBytes(k), p), impl.PointScale(lowBytes(l), p))
	checkPoint(t, "scaled by a sum", impl.PointScale(lowBytes(new(big.Int).Add(k, l)), p), sum, k, l, p)
}

func TestPromise7ScalesAdded(t *testing.T) {
	r := rand.New(rand.NewSource(38))
	numbers := append(namedNumbers(), randomElement(r), randomElement(r))
	points := append(scalingPoints(t, r), edgePoints()...)
	for _, k := range numbers {
		for _, l := range numbers {
			if a, b := bigOfLow(k), bigOfLow(l); new(big.Int).Add(a, b).BitLen() <= 256 {
				checkScalesAdded(t, a, b, impl.PointBase())
				checkScalesAdded(t, a, b, points[r.Intn(len(points))])
			}
		}
	}
	for _, p := range append(points, randomPoints(r, 200)...) {
		whole := bigOfLow(randomElement(r))
		part := bigOfLow(randomElement(r))
		part.Mod(part, plus(whole, 1))
		checkScalesAdded(t, part, new(big.Int).Sub(whole, part), p)
		checkScalesAdded(t, new(big.Int).Sub(plus(powerOf2(256), -1), part), part, p)
	}
}

// The library makes a public key of the base, scaled by what the hash of a seed begins with.
func TestPointScaleAsPublicKeys(t *testing.T) {
	r := rand.New(rand.NewSource(39))
	for range 200 {
		seed := randomElement(r)
		hashed := sha512.Sum512(seed)
		want := ed25519.NewKeyFromSeed(seed).Public().(ed25519.PublicKey)
		p := impl.PointScale(toldClamp(hashed[:32]), impl.PointBase())
		checkList(t, "public key", impl.PointEncode(p), want, seed)
		back := impl.PointDecode(want)
		if !back.Good {
			t.Errorf("the public key %x is not decoded", want)
		}
		checkPoint(t, "decoded public key", back.Point, p, seed)
	}
}
