package tests

import (
	"math/big"
	"slices"
	"testing"

	"loop.example/g00004/impl"
)

// Chapter 9 done another way: points are fractions of whole numbers of any size, the hash is the library's. Nothing of
// the program is asked here.

// toldP is P once for all, since each step asks for it.
var toldP = fieldP()

// bigPoint is the point of x / z and y / z.
type bigPoint struct {
	x *big.Int
	y *big.Int
	z *big.Int
}

func timesModP(a *big.Int, b *big.Int) *big.Int {
	product := new(big.Int).Mul(a, b)
	return product.Mod(product, toldP)
}

func inverseModP(a *big.Int) *big.Int {
	return new(big.Int).ModInverse(a, toldP)
}

// bigD is -121665 times the inverse of 121666.
var bigD = timesModP(big.NewInt(-121665), inverseModP(big.NewInt(121666)))

func bigZero() bigPoint {
	return bigPoint{x: big.NewInt(0), y: big.NewInt(1), z: big.NewInt(1)}
}

// bigBase has 4 / 5 as its y, and an even x.
func bigBase(t *testing.T) bigPoint {
	t.Helper()
	base, good := bigPointOf(lowBytes(timesModP(big.NewInt(4), inverseModP(big.NewInt(5)))))
	if !good {
		t.Fatal("4 / 5 goes with no x")
	}
	return base
}

// bigPointOf looks for the point whose form is b.
func bigPointOf(b []byte) (bigPoint, bool) {
	y, odd := bigOfLow(withHighestBit(b, false)), b[31] > 127
	if y.Cmp(toldP) >= 0 {
		return bigPoint{}, false
	}
	yy := timesModP(y, y)
	square := timesModP(plus(yy, -1), inverseModP(plus(timesModP(bigD, yy), 1)))
	x := new(big.Int).ModSqrt(square, toldP)
	if x == nil || odd && x.Sign() == 0 {
		return bigPoint{}, false
	}
	if odd != (x.Bit(0) == 1) {
		x.Sub(toldP, x)
	}
	return bigPoint{x: x.Mod(x, toldP), y: y, z: big.NewInt(1)}, true
}

// plus has the fractions of chapter 5 at one common denominator.
func (p bigPoint) plus(q bigPoint) bigPoint {
	xx, yy, zz := timesModP(p.x, q.x), timesModP(p.y, q.y), timesModP(p.z, q.z)
	across := new(big.Int).Add(timesModP(p.x, q.y), timesModP(p.y, q.x))
	along := new(big.Int).Add(yy, xx)
	whole, part := timesModP(zz, zz), timesModP(bigD, timesModP(xx, yy))
	more, less := new(big.Int).Add(whole, part), new(big.Int).Sub(whole, part)
	return bigPoint{
		x: timesModP(timesModP(across, zz), less),
		y: timesModP(timesModP(along, zz), more),
		z: timesModP(more, less),
	}
}

func (p bigPoint) times(k *big.Int) bigPoint {
	sum := bigZero()
	for i := k.BitLen() - 1; i >= 0; i-- {
		sum = sum.plus(sum)
		if k.Bit(i) == 1 {
			sum = sum.plus(p)
		}
	}
	return sum
}

func (p bigPoint) form() []byte {
	inverse := inverseModP(p.z)
	return withHighestBit(lowBytes(timesModP(p.y, inverse)), timesModP(p.x, inverse).Bit(0) == 1)
}

func (p bigPoint) same(q bigPoint) bool {
	return slices.Equal(p.form(), q.form())
}

// longModQ is the number of the library's hash of the lists, one behind the other, modulo Q.
func longModQ(lists ...[]byte) *big.Int {
	n := bigOfLow(libraryLong(slices.Concat(lists...)))
	return n.Mod(n, orderQ())
}

func toldSignFactor(seed []byte) *big.Int {
	return bigOfLow(toldClamp(libraryLong(seed)[:32]))
}

func toldSignPublic(t *testing.T, seed []byte) []byte {
	t.Helper()
	return bigBase(t).times(toldSignFactor(seed)).form()
}

func toldSign(t *testing.T, seed []byte, message []byte) []byte {
	t.Helper()
	r := longModQ(libraryLong(seed)[32:], message)
	first := bigBase(t).times(r).form()
	s := longModQ(first, toldSignPublic(t, seed), message)
	s.Mul(s, toldSignFactor(seed)).Add(s, r)
	return slices.Concat(first, lowBytes(s.Mod(s, orderQ())))
}

func toldVerify(t *testing.T, public []byte, message []byte, signature []byte) int64 {
	t.Helper()
	if len(public) != 32 || len(signature) != 64 {
		return 1
	}
	s := bigOfLow(signature[32:])
	if s.Cmp(orderQ()) >= 0 {
		return 2
	}
	key, good := bigPointOf(public)
	if !good {
		return 3
	}
	first, good := bigPointOf(signature[:32])
	if !good {
		return 4
	}
	if key.times(big.NewInt(8)).same(bigZero()) {
		return 5
	}
	k := longModQ(signature[:32], public, message)
	if !bigBase(t).times(s).same(first.plus(key.times(k))) {
		return 6
	}
	return 0
}

// The other way is held against the points of chapter 5 itself, so that a fault of it is not looked for in signatures.
func TestToldPointsAreThePoints(t *testing.T) {
	for _, k := range append(orderEdges(), namedNumbers()...) {
		want := impl.PointEncode(impl.PointScale(k, impl.PointBase()))
		checkList(t, "base scaled", bigBase(t).times(bigOfLow(k)).form(), want, k)
	}
	for _, p := range smallPoints(t) {
		small, good := bigPointOf(toldForm(p))
		if !good || !small.times(big.NewInt(8)).same(bigZero()) {
			t.Errorf("%x: not told as a small point", p)
		}
	}
	for _, b := range append(fieldEdges(), coordinateEdges(t)...) {
		if _, good := bigPointOf(b); good != impl.PointDecode(b).Good {
			t.Errorf("%x is told as a point: %v", b, good)
		}
	}
}
