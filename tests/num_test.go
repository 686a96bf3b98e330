package tests

import (
	"bytes"
	"math"
	"math/big"
	"math/rand"
	"testing"

	"loop.example/g00004/impl"
)

// The library's numbers are what the answers of chapter 1 are held against.

func bigOf(a []byte) *big.Int {
	return new(big.Int).SetBytes(a)
}

func isNum(lists ...[]byte) bool {
	for _, a := range lists {
		if len(a) > impl.MaxNum {
			return false
		}
	}
	return true
}

func full(n int) []byte {
	return bytes.Repeat([]byte{255}, n)
}

// powerOf256 is a byte 1 with n bytes 0 behind it.
func powerOf256(n int) []byte {
	a := make([]byte, n+1)
	a[0] = 1
	return a
}

func withZerosAhead(a []byte, n int) []byte {
	return append(make([]byte, n), a...)
}

func randomList(r *rand.Rand, n int) []byte {
	a := make([]byte, n)
	r.Read(a)
	return a
}

// randomNum has exactly n bytes of number; runs of 0 and 255 are frequent in it, since carries and borrows go through them.
func randomNum(r *rand.Rand, n int) []byte {
	a := randomList(r, n)
	for i := 0; i < n; {
		run := 1 + r.Intn(9)
		fill := r.Intn(4)
		for j := i; j < min(i+run, n); j++ {
			if fill == 0 {
				a[j] = 0
			} else if fill == 1 {
				a[j] = 255
			}
		}
		i += run
	}
	if n > 0 && a[0] == 0 {
		a[0] = byte(1 + r.Intn(255))
	}
	return a
}

// mixedLists are lists of all lengths around the limits, among them ones that are no numbers.
func mixedLists() [][]byte {
	r := rand.New(rand.NewSource(1))
	lists := [][]byte{nil, {}, {0}, {0, 0, 0, 0, 0}, {1}, {2}, {127}, {128}, {255}, {1, 0}, {0, 1}, {0, 0, 0, 0, 1, 0}}
	for _, n := range []int{3, 4, 5, 7, 8, 9, 12, 16, 31, 32, 33, 40, 41, 63, 64, 65, 100, 124, 125, 127, 128, 129, 200} {
		lists = append(lists, full(n), powerOf256(n-1), make([]byte, n), randomList(r, n), randomNum(r, n), withZerosAhead([]byte{7}, n-1))
	}
	return lists
}

func checkNumResult(t *testing.T, what string, a []byte, b []byte, got impl.NumResult, good bool, want *big.Int) {
	t.Helper()
	if !good {
		want = new(big.Int)
	}
	if got.Good != good || !bytes.Equal(got.Value, want.Bytes()) {
		t.Errorf("%s of %x and %x: got %v %x, want %v %x", what, a, b, got.Good, got.Value, good, want.Bytes())
	}
}

func fits(n *big.Int) bool {
	return n.Sign() >= 0 && n.BitLen() <= 8*impl.MaxNum
}

func checkSums(t *testing.T, a []byte, b []byte) {
	t.Helper()
	x, y := bigOf(a), bigOf(b)
	sum := new(big.Int).Add(x, y)
	checkNumResult(t, "sum", a, b, impl.NumAdd(a, b), isNum(a, b) && fits(sum), sum)
	difference := new(big.Int).Sub(x, y)
	checkNumResult(t, "difference", a, b, impl.NumSub(a, b), isNum(a, b) && fits(difference), difference)
	product := new(big.Int).Mul(x, y)
	checkNumResult(t, "product", a, b, impl.NumMul(a, b), isNum(a, b) && fits(product), product)
	order := int64(2)
	if isNum(a, b) {
		order = int64(x.Cmp(y))
	}
	if got := impl.NumCompare(a, b); got != order {
		t.Errorf("compare %x with %x: got %d, want %d", a, b, got, order)
	}
}

func checkDivide(t *testing.T, a []byte, b []byte) {
	t.Helper()
	got := impl.NumDivide(a, b)
	x, y := bigOf(a), bigOf(b)
	good := isNum(a, b) && y.Sign() != 0
	quotient, rest := new(big.Int), new(big.Int)
	if good {
		quotient.QuoRem(x, y, rest)
	}
	if got.Good != good || !bytes.Equal(got.Quotient, quotient.Bytes()) || !bytes.Equal(got.Rest, rest.Bytes()) {
		t.Errorf("divide %x by %x: got %v %x %x, want %v %x %x", a, b, got.Good, got.Quotient, got.Rest, good, quotient.Bytes(), rest.Bytes())
	}
}

func TestTrim(t *testing.T) {
	for _, a := range mixedLists() {
		var want []byte
		if isNum(a) {
			want = bigOf(a).Bytes()
		}
		if got := impl.NumTrim(a); !bytes.Equal(got, want) {
			t.Errorf("trim %x: got %x, want %x", a, got, want)
		}
	}
}

func TestNumbersOfAllKinds(t *testing.T) {
	lists := mixedLists()
	for _, a := range lists {
		for _, b := range lists {
			checkSums(t, a, b)
			checkDivide(t, a, b)
		}
	}
}

func TestZerosAheadPlayNoPart(t *testing.T) {
	r := rand.New(rand.NewSource(2))
	for n := range 64 {
		a, b := randomNum(r, n+1), randomNum(r, 1+r.Intn(n+1))
		for _, zeros := range []int{1, 3, 4, 17, 63} {
			checkSums(t, withZerosAhead(a, zeros), b)
			checkSums(t, a, withZerosAhead(b, zeros))
			checkDivide(t, withZerosAhead(a, zeros), b)
			checkDivide(t, a, withZerosAhead(b, zeros))
		}
	}
}

func TestSumsAtTheLimit(t *testing.T) {
	most := full(impl.MaxNum)
	half := powerOf256(impl.MaxNum - 1)
	half[0] = 128
	belowHalf := impl.NumSub(half, []byte{1}).Value
	almost := impl.NumSub(most, []byte{1}).Value
	pairs := [][2][]byte{{most, nil}, {most, {1}}, {almost, {1}}, {almost, {2}}, {half, half}, {half, belowHalf}, {belowHalf, belowHalf}, {most, most}}
	for _, p := range pairs {
		checkSums(t, p[0], p[1])
		checkSums(t, p[1], p[0])
	}
	if !impl.NumAdd(almost, []byte{1}).Good || impl.NumAdd(almost, []byte{2}).Good {
		t.Error("the greatest sum is good, and the one above it is not")
	}
}

func TestProductsAtTheLimit(t *testing.T) {
	for n := range impl.MaxNum + 1 {
		// A bit to the power of n bytes, times what makes it just too long, and one byte, and one bit, less.
		checkSums(t, powerOf256(n), powerOf256(min(impl.MaxNum-n, impl.MaxNum-1)))
		checkSums(t, full(n), full(impl.MaxNum-n))
		checkSums(t, full(n), full(min(impl.MaxNum-n+1, impl.MaxNum)))
		if n > 0 {
			highest := powerOf256(impl.MaxNum - n)
			highest[0] = 255
			checkSums(t, powerOf256(n-1), highest)
		}
	}
	two, half := []byte{2}, powerOf256(impl.MaxNum-1)
	half[0] = 128
	if impl.NumMul(half, two).Good || !impl.NumMul(impl.NumSub(half, []byte{1}).Value, two).Good {
		t.Error("a product of one bit too many is not good, and the one below it is")
	}
}

func TestDifferencesBelowZero(t *testing.T) {
	r := rand.New(rand.NewSource(3))
	for n := range impl.MaxNum {
		a := randomNum(r, n+1)
		more := impl.NumAdd(a, []byte{1})
		checkSums(t, a, a)
		checkSums(t, a, withZerosAhead(a, impl.MaxNum-len(a)))
		if more.Good {
			checkSums(t, a, more.Value)
			checkSums(t, more.Value, a)
		}
	}
}

func TestQuotientsOfEveryLength(t *testing.T) {
	r := rand.New(rand.NewSource(4))
	for n := range impl.MaxNum {
		for m := range n + 2 {
			a, b := randomNum(r, n+1), randomNum(r, min(m+1, impl.MaxNum))
			checkDivide(t, a, b)
			checkDivide(t, full(n+1), b)
			checkDivide(t, a, full(len(b)))
			checkDivide(t, powerOf256(n), b)
			checkDivide(t, a, powerOf256(len(b)-1))
		}
	}
}

// limbsOf lays numbers of 32 bits one behind the other, the highest first.
func limbsOf(limbs ...uint32) []byte {
	var a []byte
	for _, l := range limbs {
		a = append(a, byte(l>>24), byte(l>>16), byte(l>>8), byte(l))
	}
	return a
}

func allLimbs(n int, edges []uint32) [][]byte {
	if n == 0 {
		return [][]byte{nil}
	}
	var lists [][]byte
	for _, rest := range allLimbs(n-1, edges) {
		for _, edge := range edges {
			lists = append(lists, append(limbsOf(edge), rest...))
		}
	}
	return lists
}

func TestQuotientsWhoseFirstGuessIsTooGreat(t *testing.T) {
	checkDivide(t, limbsOf(0x7fffffff, 0x80000000, 0, 0), limbsOf(0x80000000, 0, 1))
	checkDivide(t, limbsOf(0x80000000, 0, 3), limbsOf(0x20000000, 0, 1))
	checkDivide(t, limbsOf(0x80000000, 0xfffffffe, 0), limbsOf(0x80000000, 0xffff))
	checkDivide(t, limbsOf(0x80000000, 0, 0, 0), limbsOf(0x80000000, 0, 1))
	edges := []uint32{0, 1, 0x7fffffff, 0x80000000, 0xffffffff}
	for _, a := range allLimbs(4, edges) {
		for _, b := range append(allLimbs(2, edges), allLimbs(3, edges)...) {
			checkDivide(t, a, b)
		}
	}
}

func TestPromise1(t *testing.T) {
	r := rand.New(rand.NewSource(5))
	for i := range 20000 {
		a, b := randomNum(r, r.Intn(impl.MaxNum+1)), randomNum(r, 1+r.Intn(impl.MaxNum))
		if i%3 == 0 {
			a, b = withZerosAhead(a, r.Intn(impl.MaxNum+1-len(a))), withZerosAhead(b, r.Intn(impl.MaxNum+1-len(b)))
		}
		d := impl.NumDivide(a, b)
		if !d.Good || impl.NumCompare(d.Rest, b) != -1 {
			t.Fatalf("divide %x by %x: %v, rest %x", a, b, d.Good, d.Rest)
		}
		again := impl.NumAdd(impl.NumMul(d.Quotient, b).Value, d.Rest)
		if !again.Good || !bytes.Equal(again.Value, impl.NumTrim(a)) {
			t.Fatalf("quotient times %x and the rest are %x, not %x", b, again.Value, a)
		}
		sum := impl.NumAdd(a, b)
		if !sum.Good {
			continue
		}
		back := impl.NumSub(sum.Value, b)
		if !back.Good || !bytes.Equal(back.Value, impl.NumTrim(a)) {
			t.Fatalf("%x and %x, less the second: %x", a, b, back.Value)
		}
	}
}

func checkPower(t *testing.T, a []byte, e []byte, m []byte) {
	t.Helper()
	got := impl.NumPower(a, e, m)
	good := len(a) <= impl.MaxPower && len(e) <= impl.MaxPower && len(m) <= impl.MaxPower && bigOf(m).Sign() != 0
	want := new(big.Int)
	if good {
		want.Exp(bigOf(a), bigOf(e), bigOf(m))
	}
	if got.Good != good || !bytes.Equal(got.Value, want.Bytes()) {
		t.Errorf("%x to the power %x modulo %x: got %v %x, want %v %x", a, e, m, got.Good, got.Value, good, want.Bytes())
	}
}

func TestPowersOfAllKinds(t *testing.T) {
	r := rand.New(rand.NewSource(6))
	lists := [][]byte{nil, {0}, {1}, {0, 1}, {2}, {3}, {255}, {1, 0}, limbsOf(0x80000000), limbsOf(1, 0), randomNum(r, 17),
		full(40), make([]byte, 40), make([]byte, 41), withZerosAhead([]byte{3}, 39), withZerosAhead([]byte{3}, 40), full(41), randomNum(r, 40), full(128), full(129)}
	for _, a := range lists {
		for _, e := range lists {
			for _, m := range lists {
				checkPower(t, a, e, m)
			}
		}
	}
	for range 300 {
		checkPower(t, randomNum(r, r.Intn(41)), randomNum(r, r.Intn(41)), randomNum(r, r.Intn(41)))
	}
}

func TestPowerEdges(t *testing.T) {
	if p := impl.NumPower([]byte{5}, nil, []byte{1}); !p.Good || len(p.Value) != 0 {
		t.Error("modulo 1 all is 0, the power 0 too")
	}
	if p := impl.NumPower(nil, nil, []byte{2}); !p.Good || !bytes.Equal(p.Value, []byte{1}) {
		t.Error("0 to the power 0 is 1")
	}
	if p := impl.NumPower(nil, []byte{9}, []byte{2}); !p.Good || len(p.Value) != 0 {
		t.Error("0 to a power other than 0 is 0")
	}
	if impl.NumPower([]byte{1}, []byte{1}, nil).Good || impl.NumPower([]byte{1}, []byte{1}, make([]byte, 40)).Good {
		t.Error("modulo 0 there are no powers")
	}
	three, long := withZerosAhead([]byte{3}, 39), withZerosAhead([]byte{3}, 40)
	if !impl.NumPower(three, three, three).Good {
		t.Error("40 bytes with bytes 0 ahead are few enough")
	}
	if impl.NumPower(long, three, three).Good || impl.NumPower(three, long, three).Good || impl.NumPower(three, three, long).Good {
		t.Error("bytes 0 ahead count: 41 are too many")
	}
}

func TestPromise2(t *testing.T) {
	r := rand.New(rand.NewSource(7))
	for i := range 400 {
		a, m := randomNum(r, r.Intn(41)), randomNum(r, 1+r.Intn(40))
		e, f := randomNum(r, r.Intn(41)), randomNum(r, r.Intn(41))
		if i%5 == 0 {
			m = withZerosAhead([]byte{byte(1 + r.Intn(3))}, r.Intn(40))
		}
		both := impl.NumAdd(e, f).Value
		if len(both) > impl.MaxPower {
			continue
		}
		product := impl.NumMul(impl.NumPower(a, e, m).Value, impl.NumPower(a, f, m).Value)
		want := impl.NumDivide(product.Value, m).Rest
		got := impl.NumPower(a, both, m)
		if !got.Good || !bytes.Equal(got.Value, want) {
			t.Fatalf("%x to the powers %x and %x modulo %x: the sum gives %x, the product %x", a, e, f, m, got.Value, want)
		}
	}
}

func TestTurn(t *testing.T) {
	sizes := []int64{math.MinInt64, -128, -1, 0, 1, 2, 3, 4, 5, 39, 40, 41, 127, 128, 129, 1 << 32, 1<<32 + 4, math.MaxInt64}
	for _, a := range mixedLists() {
		trimmed := bigOf(a).Bytes()
		for _, n := range append(sizes, int64(len(trimmed)), int64(len(trimmed))-1, int64(len(a))) {
			var want []byte
			if isNum(a) && n >= 1 && n <= impl.MaxNum && int64(len(trimmed)) <= n {
				want = make([]byte, n)
				for i, b := range trimmed {
					want[len(trimmed)-1-i] = b
				}
			}
			if got := impl.NumTurn(a, n); !bytes.Equal(got, want) {
				t.Errorf("turn %x into %d bytes: got %x, want %x", a, n, got, want)
			}
		}
	}
}

func TestNumbersKeepToTheirMemory(t *testing.T) {
	r := rand.New(rand.NewSource(8))
	lists := append(mixedLists(), randomNum(r, 6), randomNum(r, 39), randomNum(r, 90))
	pairs := map[string]func(args [][]byte) [][]byte{
		"NumCompare": func(args [][]byte) [][]byte { return [][]byte{{byte(impl.NumCompare(args[0], args[1]))}} },
		"NumAdd":     func(args [][]byte) [][]byte { return [][]byte{impl.NumAdd(args[0], args[1]).Value} },
		"NumSub":     func(args [][]byte) [][]byte { return [][]byte{impl.NumSub(args[0], args[1]).Value} },
		"NumMul":     func(args [][]byte) [][]byte { return [][]byte{impl.NumMul(args[0], args[1]).Value} },
		"NumDivide": func(args [][]byte) [][]byte {
			d := impl.NumDivide(args[0], args[1])
			return [][]byte{d.Quotient, d.Rest}
		},
		"NumPower with three": func(args [][]byte) [][]byte { return [][]byte{impl.NumPower(args[0], args[1], []byte{1, 0, 3}).Value} },
	}
	for _, a := range lists {
		checkMemory(t, "NumTrim", func(args [][]byte) [][]byte { return [][]byte{impl.NumTrim(args[0])} }, a)
		for _, n := range []int64{-1, 0, 1, int64(len(a)), 128, 129} {
			checkMemory(t, "NumTurn", func(args [][]byte) [][]byte { return [][]byte{impl.NumTurn(args[0], n)} }, a)
		}
		for _, b := range lists {
			for what, call := range pairs {
				checkMemory(t, what, call, a, b)
			}
		}
	}
}

func TestPowerKeepsToItsMemory(t *testing.T) {
	power := func(args [][]byte) [][]byte { return [][]byte{impl.NumPower(args[0], args[1], args[2]).Value} }
	lists := [][]byte{nil, {0}, {1}, {0, 0, 5}, limbsOf(0x80000001, 7), full(40), full(41)}
	for _, a := range lists {
		for _, e := range lists {
			for _, m := range lists {
				checkMemory(t, "NumPower", power, a, e, m)
			}
		}
	}
}

func TestNumbersFromOneList(t *testing.T) {
	r := rand.New(rand.NewSource(9))
	for n := range impl.MaxNum - 1 {
		one := randomNum(r, n+2)
		before := bytes.Clone(one)
		checkSums(t, one, one)
		checkDivide(t, one, one)
		checkSums(t, one, one[1:])
		checkDivide(t, one, one[1:])
		checkDivide(t, one, one[:n/2+1])
		if n+2 <= impl.MaxPower {
			checkPower(t, one, one, one)
			checkPower(t, one, one[1:], one[:n/2+1])
		}
		if !bytes.Equal(one, before) {
			t.Fatalf("a list that was handed in twice was changed: %x", before)
		}
	}
}
