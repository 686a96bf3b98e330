package tests

import (
	"bytes"
	"math/big"
	"math/rand"
	"slices"
	"testing"

	"loop.example/g00004/impl"
)

// What chapter 5 says of the one form of a point, of the ladder's side of it, and of all that is no point.

func checkForm(t *testing.T, p impl.Point) {
	t.Helper()
	form := impl.PointEncode(p)
	checkList(t, "form", form, toldForm(p), p.X, p.Y)
	back := impl.PointDecode(form)
	if !back.Good {
		t.Errorf("the form %x of %x is not decoded", form, p)
	}
	checkPoint(t, "decoded form", back.Point, p, form)
}

// checkDecoded holds what any 32 bytes are decoded to against what is told, and encodes it again.
func checkDecoded(t *testing.T, b []byte) bool {
	t.Helper()
	want, good := toldPoint(b)
	got := impl.PointDecode(b)
	if got.Good != good {
		t.Errorf("decoded %x: good %v, want %v", b, got.Good, good)
	}
	checkPoint(t, "decoded", got.Point, want, b)
	if got.Good {
		checkList(t, "decoded and encoded", impl.PointEncode(got.Point), b, b)
		if !impl.PointValid(got.Point) {
			t.Errorf("decoded %x: %x is not valid", b, got.Point)
		}
	}
	return good
}

func checkNotDecoded(t *testing.T, b []byte) {
	t.Helper()
	got := impl.PointDecode(b)
	if got.Good || len(got.Point.X) != 0 || len(got.Point.Y) != 0 {
		t.Errorf("decoded %x: got %v %x", b, got.Good, got.Point)
	}
}

func TestPromise8Points(t *testing.T) {
	r := rand.New(rand.NewSource(40))
	points := append(namedPoints(t, r), edgePoints()...)
	for _, p := range append(points, randomPoints(r, 500)...) {
		checkForm(t, p)
		checkForm(t, toldNegative(p))
	}
	for range 100 {
		checkForm(t, impl.PointScale(randomElement(r), impl.PointBase()))
	}
}

func TestPromise8Bytes(t *testing.T) {
	r := rand.New(rand.NewSource(41))
	lists := append(append(fieldEdges(), fieldLimbEdges()...), coordinateEdges(t)...)
	for n := range int64(300) {
		lists = append(lists, lowNumber(n), lowBytes(plus(fieldP(), -n)))
	}
	for range 1000 {
		lists = append(lists, randomElement(r))
	}
	goods := 0
	for _, b := range lists {
		for _, on := range []bool{false, true} {
			if checkDecoded(t, withHighestBit(b, on)) {
				goods++
			}
		}
	}
	if goods < len(lists)/2 || goods > 3*len(lists)/2 {
		t.Errorf("of %d lists %d are good", 2*len(lists), goods)
	}
}

// All Y from P to 2^255 - 1, though some of their rests modulo P go with an X.
func TestPointDecodeFromP(t *testing.T) {
	rests := 0
	for n := range int64(19) {
		b := lowBytes(plus(fieldP(), n))
		if _, good := toldPoint(lowNumber(n)); good {
			rests++
		}
		checkNotDecoded(t, b)
		checkNotDecoded(t, withHighestBit(b, true))
	}
	if rests < 2 {
		t.Errorf("only %d rests go with an X", rests)
	}
}

// X = 0 has no odd number: zero and the point of order 2 have one form each.
func TestPointDecodeOddZero(t *testing.T) {
	for _, y := range [][]byte{lowNumber(1), lowBytes(plus(fieldP(), -1))} {
		checkNotDecoded(t, withHighestBit(y, true))
		back := impl.PointDecode(y)
		if !back.Good {
			t.Errorf("%x is not decoded", y)
		}
		checkPoint(t, "decoded", back.Point, impl.Point{X: lowNumber(0), Y: y})
	}
}

func TestPointDecodeWithoutX(t *testing.T) {
	for _, n := range []int64{2, 7, 8} {
		checkNotDecoded(t, lowNumber(n))
		checkNotDecoded(t, withHighestBit(lowNumber(n), true))
	}
}

// A bit that is changed in a form makes another point of it, or none.
func TestPointFormBits(t *testing.T) {
	r := rand.New(rand.NewSource(42))
	for _, p := range []impl.Point{impl.PointBase(), impl.PointZero(), randomPoint(r)} {
		form := toldForm(p)
		for bit := range 256 {
			other := bytes.Clone(form)
			other[bit/8] ^= 1 << (bit % 8)
			if checkDecoded(t, other) && samePoint(impl.PointDecode(other).Point, p) {
				t.Errorf("%x and %x are both decoded to %x", form, other, p)
			}
		}
	}
}

func TestPointToLadder(t *testing.T) {
	r := rand.New(rand.NewSource(43))
	points := append(namedPoints(t, r), edgePoints()...)
	for _, p := range append(points, randomPoints(r, 200)...) {
		u := impl.PointToLadder(p)
		checkList(t, "to the ladder", u, toldCoordinate(p), p.X, p.Y)
		checkList(t, "negative to the ladder", impl.PointToLadder(toldNegative(p)), u, p.X, p.Y)
		if !isFirstCoordinate(u) || !impl.FieldCanonical(u) {
			t.Errorf("%x to the ladder: %x is no coordinate there", p, u)
		}
	}
	checkList(t, "base to the ladder", impl.PointToLadder(impl.PointBase()), lowNumber(9))
	checkList(t, "zero to the ladder", impl.PointToLadder(impl.PointZero()), lowNumber(0))
	checkList(t, "order 2 to the ladder", impl.PointToLadder(smallPoints(t)[1]), lowNumber(0))
}

func checkBothLadders(t *testing.T, k []byte, p impl.Point) {
	t.Helper()
	got := impl.PointToLadder(impl.PointScale(impl.LadderClamp(k), p))
	checkList(t, "scaled, to the ladder", got, impl.Ladder(k, impl.PointToLadder(p)), k, p.X, p.Y)
	checkList(t, "scaled, to the library's ladder", got, libraryLadder(t, k, toldCoordinate(p)), k, p.X, p.Y)
}

func TestPromise9(t *testing.T) {
	r := rand.New(rand.NewSource(44))
	keys, small := ladderKeys(), smallPoints(t)
	for i, k := range keys {
		checkBothLadders(t, k, impl.PointBase())
		checkBothLadders(t, k, randomPoint(r))
		checkBothLadders(t, k, small[i%len(small)])
	}
	for _, p := range append(namedPoints(t, r), edgePoints()...) {
		checkBothLadders(t, randomElement(r), p)
		checkBothLadders(t, keys[r.Intn(len(keys))], p)
	}
	for range 200 {
		checkBothLadders(t, randomElement(r), randomPoint(r))
	}
}

func TestPromise9Public(t *testing.T) {
	r := rand.New(rand.NewSource(45))
	for _, k := range append(ladderKeys(), randomElement(r), randomElement(r)) {
		p := impl.PointScale(impl.LadderClamp(k), impl.PointBase())
		checkList(t, "scaled base to the ladder", impl.PointToLadder(p), impl.LadderPublic(k), k)
		checkPoint(t, "eight times a small one", impl.PointScale(impl.LadderClamp(k), smallPoints(t)[7]), zeroPoint(), k)
	}
}

// otherLengths are lists that a careless look takes for a: with bytes more, with bytes less, or twice; and other ones.
func otherLengths(r *rand.Rand, a []byte) [][]byte {
	longer := append(bytes.Clone(a), 0)
	double := append(bytes.Clone(a), a...)
	lists := [][]byte{nil, {}, a[:1], a[:31], a[1:], longer, append([]byte{0}, a...), append(bytes.Clone(a), make([]byte, 32)...), double}
	return append(lists, randomList(r, 31), randomList(r, 33), randomList(r, 64))
}

// notCanonical are the numbers from P on that are a modulo P, and a with the highest bit.
func notCanonical(a []byte) [][]byte {
	lists := [][]byte{withHighestBit(a, true), full(32), lowBytes(fieldP())}
	n := bigOfLow(a)
	for n.Add(n, fieldP()); n.BitLen() <= 256; n.Add(n, fieldP()) {
		lists = append(lists, lowBytes(n))
	}
	return lists
}

// notOnCurve are pairs of elements next to those of p (exchanged, one more, one less, another bit) that do not fulfil the
// equation.
func notOnCurve(r *rand.Rand, p impl.Point) []impl.Point {
	one := lowNumber(1)
	points := []impl.Point{{X: p.Y, Y: p.X}, {X: impl.FieldAdd(p.X, one), Y: p.Y}, {X: impl.FieldSub(p.X, one), Y: p.Y},
		{X: p.X, Y: impl.FieldAdd(p.Y, one)}, {X: p.X, Y: impl.FieldSub(p.Y, one)},
		{X: p.X, Y: p.X}, {X: p.Y, Y: p.Y}, {X: lowNumber(0), Y: lowNumber(0)}, {X: p.X, Y: lowNumber(2)}}
	for range 8 {
		x, y := bytes.Clone(p.X), bytes.Clone(p.Y)
		x[r.Intn(31)] ^= 1 << r.Intn(8)
		y[r.Intn(31)] ^= 1 << r.Intn(8)
		points = append(points, impl.Point{X: x, Y: p.Y}, impl.Point{X: p.X, Y: y}, impl.Point{X: x, Y: y})
	}
	return slices.DeleteFunc(points, toldValid)
}

func notValid(r *rand.Rand, p impl.Point) []impl.Point {
	points := append([]impl.Point{{}}, notOnCurve(r, p)...)
	for _, x := range append(otherLengths(r, p.X), notCanonical(p.X)...) {
		points = append(points, impl.Point{X: x, Y: p.Y})
	}
	for _, y := range append(otherLengths(r, p.Y), notCanonical(p.Y)...) {
		points = append(points, impl.Point{X: p.X, Y: y})
	}
	return append(points, impl.Point{X: p.X[:31], Y: p.Y[:31]}, impl.Point{X: lowBytes(fieldP()), Y: lowBytes(plus(fieldP(), 1))})
}

func checkNoPoint(t *testing.T, what string, got impl.Point, args ...any) {
	t.Helper()
	if len(got.X) != 0 || len(got.Y) != 0 {
		t.Errorf("%s of %x: got %x", what, args, got)
	}
}

func checkRefused(t *testing.T, bad impl.Point, good impl.Point, k []byte) {
	t.Helper()
	if impl.PointValid(bad) {
		t.Errorf("%x is valid", bad)
	}
	checkNoPoint(t, "sum", impl.PointAdd(bad, good), bad, good)
	checkNoPoint(t, "sum", impl.PointAdd(good, bad), good, bad)
	checkNoPoint(t, "sum", impl.PointAdd(bad, bad), bad)
	checkNoPoint(t, "negative", impl.PointNegate(bad), bad)
	checkNoPoint(t, "scaled", impl.PointScale(k, bad), k, bad)
	checkNoPoint(t, "scaled by 0", impl.PointScale(lowNumber(0), bad), bad)
	checkNoPoint(t, "scaled by a short number", impl.PointScale(k[:31], bad), k, bad)
	checkList(t, "form", impl.PointEncode(bad), nil, bad.X, bad.Y)
	checkList(t, "to the ladder", impl.PointToLadder(bad), nil, bad.X, bad.Y)
}

func TestPointNotValid(t *testing.T) {
	r := rand.New(rand.NewSource(46))
	points := append(smallPoints(t), basePoint(t), randomPoint(r), randomPoint(r))
	for _, p := range points {
		for _, bad := range notValid(r, p) {
			checkRefused(t, bad, p, randomElement(r))
			checkRefused(t, bad, points[r.Intn(len(points))], lowNumber(1))
		}
	}
}

func TestPointValidEdges(t *testing.T) {
	r := rand.New(rand.NewSource(47))
	elements := append(fieldEdges(), lowNumber(5), randomElement(r))
	for _, x := range elements {
		for _, y := range elements {
			p := impl.Point{X: x, Y: y}
			if got, want := impl.PointValid(p), toldValid(p); got != want {
				t.Errorf("valid %x: got %v, want %v", p, got, want)
			}
		}
	}
}

func TestPointScaleOtherLengths(t *testing.T) {
	r := rand.New(rand.NewSource(48))
	lists := listsNotOf32(r)
	for _, a := range listsUpTo(r, 70) {
		if len(a) != 32 {
			lists = append(lists, a)
		}
	}
	for _, k := range lists {
		for _, p := range []impl.Point{impl.PointBase(), impl.PointZero(), randomPoint(r)} {
			checkNoPoint(t, "scaled", impl.PointScale(k, p), k, p)
		}
	}
}

func TestPointDecodeOtherLengths(t *testing.T) {
	r := rand.New(rand.NewSource(49))
	lists := listsNotOf32(r)
	for _, p := range []impl.Point{impl.PointBase(), impl.PointZero(), randomPoint(r)} {
		lists = append(lists, otherLengths(r, toldForm(p))...)
	}
	for _, a := range append(lists, listsUpTo(r, 70)...) {
		if len(a) != 32 {
			checkNotDecoded(t, a)
		}
	}
}

func listsOf(points ...impl.Point) [][]byte {
	var lists [][]byte
	for _, p := range points {
		lists = append(lists, p.X, p.Y)
	}
	return lists
}

// pointsOf are the points whose lists these are.
func pointsOf(lists [][]byte) (impl.Point, impl.Point) {
	return impl.Point{X: lists[0], Y: lists[1]}, impl.Point{X: lists[2], Y: lists[3]}
}

// allAnswers are the lists of the answers of all calls at once, so that none shares memory with another.
func allAnswers(args [][]byte) [][]byte {
	p, q := pointsOf(args)
	k, b := args[4], args[5]
	impl.PointValid(p)
	lists := listsOf(impl.PointZero(), impl.PointBase(), impl.PointZero(), impl.PointBase(), impl.PointAdd(p, q),
		impl.PointAdd(p, q), impl.PointAdd(p, impl.PointZero()), impl.PointNegate(p), impl.PointNegate(p),
		impl.PointScale(k, p), impl.PointScale(k, p), impl.PointScale(lowNumber(0), p), impl.PointScale(lowNumber(1), p),
		impl.PointDecode(b).Point, impl.PointDecode(b).Point)
	return append(lists, impl.PointEncode(p), impl.PointEncode(p), impl.PointToLadder(p), impl.PointToLadder(p))
}

func TestPointMemory(t *testing.T) {
	r := rand.New(rand.NewSource(50))
	points := append(smallPoints(t), basePoint(t), randomPoint(r), randomPoint(r))
	for _, p := range points {
		q := points[r.Intn(len(points))]
		others := append([]impl.Point{p, zeroPoint(), toldNegative(p), q}, notValid(r, p)[:8]...)
		for _, other := range others {
			k, b := randomElement(r), toldForm(q)
			checkMemory(t, "all calls", allAnswers, p.X, p.Y, other.X, other.Y, k, b)
			checkMemory(t, "all calls", allAnswers, other.X, other.Y, p.X, p.Y, k, randomElement(r))
			checkMemory(t, "all calls", allAnswers, p.X, p.Y, other.X, other.Y, randomList(r, 31), randomList(r, 33))
		}
	}
}

// What is done with an answer is not seen in the next one.
func TestPointConstantsStay(t *testing.T) {
	for range 3 {
		for _, p := range []impl.Point{impl.PointZero(), impl.PointBase()} {
			spoil(p.X)
			spoil(p.Y)
		}
		checkPoint(t, "zero", impl.PointZero(), zeroPoint())
		checkPoint(t, "base", impl.PointBase(), basePoint(t))
		checkPoint(t, "base scaled", impl.PointScale(lowBytes(plus(orderQ(), 1)), basePoint(t)), basePoint(t))
	}
}

// Lists that stand side by side in one, and one list as several arguments.
func TestPointFromOneList(t *testing.T) {
	r := rand.New(rand.NewSource(51))
	for range 50 {
		p, q := randomPoint(r), randomPoint(r)
		one := bytes.Join(listsOf(p, q), nil)
		before := bytes.Clone(one)
		a, b := impl.Point{X: one[:32], Y: one[32:64]}, impl.Point{X: one[64:96], Y: one[96:]}
		checkSum(t, a, b)
		checkSum(t, a, a)
		checkForm(t, a)
		checkDecoded(t, one[:32])
		checkDecoded(t, one[32:64])
		checkBothLadders(t, one[:32], a)
		checkBothLadders(t, one[20:52], b)
		checkPoint(t, "negative", impl.PointNegate(b), toldNegative(q))
		checkScalesAdded(t, bigOfLow(one[:32]), big.NewInt(1), a)
		checkList(t, "argument", one, before)
	}
}
