package tests

import (
	"bytes"
	"math/big"
	"math/rand"
	"testing"

	"loop.example/g00004/impl"
)

// The numbers of chapter 1 are what the answers of chapter 3 are held against, as promise 5 says; the library's numbers
// make the arguments.

// orderQ is 2^252 + 27742317777372353535851937790883648493.
func orderQ() *big.Int {
	low, _ := new(big.Int).SetString("27742317777372353535851937790883648493", 10)
	return low.Add(low, powerOf2(252))
}

func timesQ(n int64) *big.Int {
	return new(big.Int).Mul(big.NewInt(n), orderQ())
}

// lowBytesOf tells a number as n bytes, the lowest first.
func lowBytesOf(a *big.Int, n int) []byte {
	return turned(a.FillBytes(make([]byte, n)))
}

// neighbours are the 32 bytes of the numbers around a that have 256 bits.
func neighbours(a *big.Int, width int64) [][]byte {
	var lists [][]byte
	for n := -width; n <= width; n++ {
		if b := plus(a, n); b.Sign() >= 0 && b.BitLen() <= 256 {
			lists = append(lists, lowBytes(b))
		}
	}
	return lists
}

// orderEdges are the numbers at which something comes round modulo Q or in 256 bits.
func orderEdges() [][]byte {
	var edges [][]byte
	for _, a := range []*big.Int{timesQ(0), timesQ(1), timesQ(2), timesQ(15), powerOf2(252), powerOf2(255), powerOf2(256)} {
		edges = append(edges, neighbours(a, 1)...)
	}
	return edges
}

// orderManyEdges are those, all multiples of Q and of 2^252 with their neighbours, and words of 64 bits all 0 or all 1.
func orderManyEdges() [][]byte {
	edges := append(orderEdges(), neighbours(new(big.Int).Rsh(orderQ(), 1), 1)...)
	for n := int64(1); n <= 15; n++ {
		edges = append(edges, neighbours(timesQ(n), 2)...)
		top := powerOf2(252)
		edges = append(edges, neighbours(top.Mul(top, big.NewInt(n)), 2)...)
	}
	return append(edges, limbEdges([]uint{0, 64, 128, 192, 252, 256}, 0)...)
}

// numbersModQ tells by the numbers of chapter 1 what a, the highest byte first, is modulo Q.
func numbersModQ(t *testing.T, a []byte) []byte {
	t.Helper()
	parts := impl.NumDivide(a, orderQ().Bytes())
	if !parts.Good {
		t.Fatalf("numbers do not divide %x", a)
	}
	return impl.NumTurn(parts.Rest, 32)
}

func numbersMulAdd(t *testing.T, a []byte, b []byte, c []byte) []byte {
	t.Helper()
	product := impl.NumMul(turned(a), turned(b))
	sum := impl.NumAdd(product.Value, turned(c))
	if !product.Good || !sum.Good {
		t.Fatalf("numbers do not multiply and add %x, %x, %x", a, b, c)
	}
	return numbersModQ(t, sum.Value)
}

// checkOrderAnswer also asks that an answer that is not empty is valid.
func checkOrderAnswer(t *testing.T, what string, got []byte, want []byte, args ...[]byte) {
	t.Helper()
	checkList(t, what, got, want, args...)
	if len(want) > 0 && !impl.OrderValid(got) {
		t.Errorf("%s of %x: %x is not valid", what, args, got)
	}
}

func checkOrderMulAdd(t *testing.T, a []byte, b []byte, c []byte) {
	t.Helper()
	checkOrderAnswer(t, "a * b + c", impl.OrderMulAdd(a, b, c), numbersMulAdd(t, a, b, c), a, b, c)
}

func checkOrderReduce(t *testing.T, a []byte) {
	t.Helper()
	var want []byte
	if len(a) >= 1 && len(a) <= 64 {
		want = numbersModQ(t, turned(a))
	}
	checkOrderAnswer(t, "reduced", impl.OrderReduce(a), want, a)
}

func checkOrderValid(t *testing.T, a []byte) {
	t.Helper()
	want := len(a) == 32 && impl.NumCompare(turned(a), orderQ().Bytes()) < 0
	if got := impl.OrderValid(a); got != want {
		t.Errorf("valid %x: got %v, want %v", a, got, want)
	}
}

func TestOrderBytes(t *testing.T) {
	want := lowBytes(orderQ())
	first := impl.OrderBytes()
	checkList(t, "order", first, want)
	spoil(first)
	checkList(t, "order after its first answer was changed", impl.OrderBytes(), want)
	checkOrderReduce(t, full(64))
	checkMemory(t, "order", func(args [][]byte) [][]byte { return [][]byte{impl.OrderBytes(), impl.OrderBytes()} })
}

func TestOrderValid(t *testing.T) {
	for _, a := range orderManyEdges() {
		checkOrderValid(t, a)
	}
	r := rand.New(rand.NewSource(9))
	for _, a := range listsUpTo(r, 70) {
		checkOrderValid(t, a)
	}
	// A number below Q with bytes 0 behind it, or less a byte 0, is still not 32 bytes.
	below := lowBytes(plus(orderQ(), -1))
	checkOrderValid(t, append(bytes.Clone(below), 0))
	checkOrderValid(t, lowNumber(7)[:31])
	for range 1000 {
		a := randomElement(r)
		a[31] &= 31
		checkOrderValid(t, a)
	}
	// A number that differs from Q in one bit is above it or below it by that bit.
	for bit := range 256 {
		a := lowBytes(orderQ())
		a[bit/8] ^= 1 << (bit % 8)
		checkOrderValid(t, a)
	}
}

func TestPromise5MulAddEdges(t *testing.T) {
	edges := orderEdges()
	for _, a := range edges {
		for _, b := range edges {
			for _, c := range edges {
				checkOrderMulAdd(t, a, b, c)
			}
		}
	}
}

func TestPromise5MulAddManyEdges(t *testing.T) {
	r := rand.New(rand.NewSource(10))
	edges := orderManyEdges()
	for _, a := range edges {
		for _, b := range edges {
			checkOrderMulAdd(t, a, b, edges[r.Intn(len(edges))])
			checkOrderMulAdd(t, a, randomElement(r), b)
		}
	}
}

func TestPromise5MulAddRandom(t *testing.T) {
	r := rand.New(rand.NewSource(11))
	for range 5000 {
		checkOrderMulAdd(t, randomElement(r), randomElement(r), randomElement(r))
	}
	// Sums that come out at 0, or next to it, modulo Q.
	for range 500 {
		a, b := randomElement(r), randomElement(r)
		rest := bigOfLow(numbersMulAdd(t, a, b, lowNumber(0)))
		for _, c := range neighbours(new(big.Int).Sub(orderQ(), rest), 1) {
			checkOrderMulAdd(t, a, b, c)
		}
	}
}

func TestPromise5ReduceLengths(t *testing.T) {
	r := rand.New(rand.NewSource(12))
	for _, a := range listsUpTo(r, 130) {
		checkOrderReduce(t, a)
	}
	edges := orderManyEdges()
	for _, low := range edges {
		checkOrderReduce(t, low)
		for _, high := range edges {
			checkOrderReduce(t, append(bytes.Clone(low), high...))
		}
	}
}

// checkReduceAround reduces all numbers around a, in as few bytes as they need and in 64.
func checkReduceAround(t *testing.T, a *big.Int) {
	t.Helper()
	for n := int64(-2); n <= 2; n++ {
		b := plus(a, n)
		if b.Sign() < 0 || b.BitLen() > 512 {
			continue
		}
		checkOrderReduce(t, turned(b.Bytes()))
		checkOrderReduce(t, lowBytesOf(b, 64))
	}
}

func TestPromise5ReduceMultiples(t *testing.T) {
	r := rand.New(rand.NewSource(13))
	greatest := new(big.Int).Div(plus(powerOf2(512), -1), orderQ())
	checkReduceAround(t, new(big.Int).Mul(greatest, orderQ()))
	for n := range uint(512) {
		checkReduceAround(t, powerOf2(n))
		if n < 260 {
			checkReduceAround(t, new(big.Int).Lsh(orderQ(), n))
			checkReduceAround(t, new(big.Int).Mul(plus(powerOf2(n), -1), orderQ()))
		}
	}
	for range 2000 {
		times := bigOf(randomNum(r, 1+r.Intn(33)))
		times.Mod(times, plus(greatest, 1))
		checkReduceAround(t, times.Mul(times, orderQ()))
	}
}

// The upper half of 64 bytes counts as its words times the powers of 2^64 modulo Q. Where this sum and the lower half
// together come next to a multiple of 2^256 or of 2^252, the last steps have the least to take from.
func TestPromise5ReduceNextToZero(t *testing.T) {
	r := rand.New(rand.NewSource(14))
	for range 2000 {
		high := randomElement(r)
		sum := new(big.Int)
		for i := range 4 {
			word := bigOfLow(high[8*i : 8*i+8])
			fold := new(big.Int).Mod(powerOf2(uint(256+64*i)), orderQ())
			sum.Add(sum, word.Mul(word, fold))
		}
		for _, modulus := range []*big.Int{powerOf2(256), powerOf2(252), timesQ(15)} {
			low := new(big.Int).Sub(modulus, new(big.Int).Mod(sum, modulus))
			for _, more := range []*big.Int{big.NewInt(-1), big.NewInt(0), big.NewInt(1), powerOf2(128), bigOf(randomNum(r, 1+r.Intn(24)))} {
				next := new(big.Int).Add(low, more)
				next.Mod(next, powerOf2(256))
				checkOrderReduce(t, append(lowBytes(next), high...))
			}
		}
	}
}

func TestOrderOtherLengths(t *testing.T) {
	r := rand.New(rand.NewSource(15))
	good := randomElement(r)
	for _, a := range listsNotOf32(r) {
		for _, args := range [][3][]byte{{a, good, good}, {good, a, good}, {good, good, a}, {a, a, good}, {a, good, a}, {good, a, a}, {a, a, a}} {
			if got := impl.OrderMulAdd(args[0], args[1], args[2]); len(got) != 0 {
				t.Errorf("a * b + c of %x: got %x", args, got)
			}
		}
		if impl.OrderValid(a) {
			t.Errorf("%x is valid", a)
		}
	}
}

func TestOrderMemory(t *testing.T) {
	valid := func(args [][]byte) [][]byte {
		impl.OrderValid(args[0])
		return nil
	}
	reduce := func(args [][]byte) [][]byte { return [][]byte{impl.OrderReduce(args[0])} }
	mulAdd := func(args [][]byte) [][]byte { return [][]byte{impl.OrderMulAdd(args[0], args[1], args[2])} }
	r := rand.New(rand.NewSource(16))
	lists := append(orderManyEdges(), nil, []byte{7}, randomList(r, 31), randomList(r, 33), randomList(r, 64), randomList(r, 65))
	for _, a := range lists {
		checkMemory(t, "valid", valid, a)
		checkMemory(t, "reduced", reduce, a)
		for _, b := range [][]byte{a, lowNumber(0), lowNumber(1), randomElement(r)} {
			checkMemory(t, "a * b + c", mulAdd, a, b, b)
			checkMemory(t, "a * b + c", mulAdd, b, a, b)
			checkMemory(t, "a * b + c", mulAdd, b, b, a)
		}
	}
}

// One list as all three arguments: what is read of the one must not be touched by the other.
func TestOrderSameListThrice(t *testing.T) {
	for _, a := range orderManyEdges() {
		before := bytes.Clone(a)
		checkOrderMulAdd(t, a, a, a)
		checkList(t, "argument", a, before)
	}
}
