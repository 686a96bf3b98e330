package tests

import (
	"bytes"
	"math/big"
	"math/rand"
	"slices"
	"testing"

	"loop.example/g00004/impl"
)

// What chapter 8 says of the one-time sum.

// sumP is what the sums are taken modulo.
func sumP() *big.Int {
	return plus(powerOf2(130), -5)
}

// letOn are the bits of r that are let on.
func letOn() *big.Int {
	all := plus(powerOf2(128), -1)
	for _, place := range []int{3, 7, 11, 15} {
		for bit := 4; bit < 8; bit++ {
			all.SetBit(all, 8*place+bit, 0)
		}
	}
	for _, place := range []int{4, 8, 12} {
		all.SetBit(all, 8*place, 0)
		all.SetBit(all, 8*place+1, 0)
	}
	return all
}

func toldFactor(key []byte) *big.Int {
	r := bigOfLow(key[:16])
	return r.And(r, letOn())
}

func toldPiece(piece []byte) *big.Int {
	return bigOfLow(append(bytes.Clone(piece), 1))
}

// toldNumber is the number ahead of adding s: each piece times r as often as there are pieces from it on.
func toldNumber(r *big.Int, data []byte) *big.Int {
	pieces := slices.Collect(slices.Chunk(data, 16))
	sum, p := new(big.Int), sumP()
	power := big.NewInt(1)
	for _, piece := range slices.Backward(pieces) {
		power.Mul(power, r).Mod(power, p)
		sum.Add(sum, new(big.Int).Mul(toldPiece(piece), power))
	}
	return sum.Mod(sum, p)
}

func toldOneTime(key []byte, data []byte) []byte {
	sum := toldNumber(toldFactor(key), data)
	sum.Add(sum, bigOfLow(key[16:]))
	return lowBytesOf(sum.Mod(sum, powerOf2(128)), 16)
}

func checkOneTime(t *testing.T, key []byte, data []byte) {
	t.Helper()
	checkList(t, "one-time sum", impl.OneTime(key, data), toldOneTime(key, data), key, data)
}

// sumKey is a key of two numbers below 2^128.
func sumKey(r *big.Int, s *big.Int) []byte {
	return append(lowBytesOf(r, 16), lowBytesOf(s, 16)...)
}

func smallSumKey(r int64, s int64) []byte {
	return sumKey(big.NewInt(r), big.NewInt(s))
}

// sumFactors are values of r at the edges, as they stand in a key.
func sumFactors() []*big.Int {
	factors := []*big.Int{
		big.NewInt(0), big.NewInt(1), big.NewInt(2), big.NewInt(3), big.NewInt(5), letOn(), plus(letOn(), -1), plus(powerOf2(128), -1),
	}
	for _, bit := range []uint{1, 25, 26, 27, 36, 51, 52, 53, 74, 77, 78, 79, 103, 104, 105, 123} {
		factors = append(factors, powerOf2(bit), plus(powerOf2(bit), -1))
	}
	return factors
}

func sumKeys(r *rand.Rand) [][]byte {
	keys := cipherLists(r, impl.KeySize)
	for _, factor := range sumFactors() {
		keys = append(keys, sumKey(factor, big.NewInt(0)), sumKey(factor, plus(powerOf2(128), -1)), sumKey(factor, bigOf(randomList(r, 16))))
	}
	return keys
}

// pieceLengths end a piece, stand beside its end, or are some hundred.
func pieceLengths() []int {
	return []int{0, 1, 2, 15, 16, 17, 31, 32, 33, 47, 48, 49, 63, 64, 65, 255, 256, 257, 500}
}

// The sums that were published with the make.
func TestOneTimePublished(t *testing.T) {
	two, other := smallSumKey(2, 0), fromHex(t, "0100000000000000040000000000000000000000000000000000000000000000")
	for _, one := range []struct {
		key  []byte
		data []byte
		want string
	}{
		{fromHex(t, "85d6be7857556d337f4452fe42d506a80103808afb0db2fd4abff6af4149f51b"), []byte("Cryptographic Forum Research Group"), "a8061dc1305136c6c22b8baf0c0127a9"},
		{two, full(16), "03000000000000000000000000000000"},
		{append(two[:16:16], full(16)...), fromHex(t, "02000000000000000000000000000000"), "03000000000000000000000000000000"},
		{two, append([]byte{253}, full(15)...), "faffffffffffffffffffffffffffffff"},
		{other, fromHex(t, "e33594d7505e43b900000000000000003394d7505e4379cd01000000000000000000000000000000000000000000000001000000000000000000000000000000"), "14000000000000005500000000000000"},
		{other, fromHex(t, "e33594d7505e43b900000000000000003394d7505e4379cd010000000000000000000000000000000000000000000000"), "13000000000000000000000000000000"},
	} {
		checkList(t, "one-time sum", impl.OneTime(one.key, one.data), fromHex(t, one.want), one.key, one.data)
	}
}

func TestOneTimeTold(t *testing.T) {
	r := rand.New(rand.NewSource(99))
	for _, key := range sumKeys(r) {
		for _, n := range pieceLengths() {
			checkOneTime(t, key, randomList(r, n))
			checkOneTime(t, key, make([]byte, n))
			checkOneTime(t, key, full(n))
		}
	}
}

func TestOneTimeAtEveryLength(t *testing.T) {
	r := rand.New(rand.NewSource(100))
	for n := range 400 {
		checkOneTime(t, randomList(r, 32), randomList(r, n))
		checkOneTime(t, full(32), full(n))
		checkOneTime(t, upwards(32), upwards(n))
	}
	for _, n := range []int{4095, 4096, 65536, 100000} {
		checkOneTime(t, full(32), full(n))
		checkOneTime(t, randomList(r, 32), randomList(r, n))
	}
}

func TestOneTimeOfSingleBits(t *testing.T) {
	r := rand.New(rand.NewSource(101))
	for i := range 8 * 32 {
		on, off := make([]byte, 32), full(32)
		on[i/8] ^= 1 << (i % 8)
		off[i/8] ^= 1 << (i % 8)
		for _, n := range []int{0, 16, 33} {
			checkOneTime(t, on, full(n))
			checkOneTime(t, off, full(n))
			checkOneTime(t, on, randomList(r, n))
			checkOneTime(t, off, randomList(r, n))
		}
		key := randomList(r, 32)
		checkOneTime(t, key, on)
		checkOneTime(t, key, off)
		checkOneTime(t, smallSumKey(1, 0), on)
		checkOneTime(t, smallSumKey(1, 0), off)
	}
}

// A bit of r that is off has no weight, and each other one has.
func TestOneTimeBitsThatAreOff(t *testing.T) {
	r := rand.New(rand.NewSource(102))
	allowed := letOn()
	for i := range 128 {
		key, data := randomList(r, 32), randomList(r, 1+r.Intn(100))
		changed := bytes.Clone(key)
		changed[i/8] ^= 1 << (i % 8)
		same := bytes.Equal(impl.OneTime(key, data), impl.OneTime(changed, data))
		if same != (allowed.Bit(i) == 0) {
			t.Errorf("bit %d of %x: the sum of %x stays: %v", i, key, data, same)
		}
	}
}

func TestOneTimeFactorsZeroAndOne(t *testing.T) {
	r := rand.New(rand.NewSource(103))
	for range 300 {
		s, data := randomList(r, 16), randomList(r, r.Intn(200))
		checkList(t, "one-time sum with r = 0", impl.OneTime(append(make([]byte, 16), s...), data), s, s, data)
		off := new(big.Int).AndNot(bigOf(randomList(r, 16)), letOn())
		checkList(t, "one-time sum with all of r off", impl.OneTime(sumKey(off, bigOfLow(s)), data), s, s, data)
		total := new(big.Int)
		for piece := range slices.Chunk(data, 16) {
			total.Add(total, toldPiece(piece))
		}
		total.Mod(total, sumP()).Add(total, bigOfLow(s))
		want := lowBytesOf(total.Mod(total, powerOf2(128)), 16)
		checkList(t, "one-time sum with r = 1", impl.OneTime(sumKey(big.NewInt(1), bigOfLow(s)), data), want, s, data)
	}
	checkList(t, "one-time sum of nothing", impl.OneTime(upwards(32), nil), upwards(32)[16:])
	checkList(t, "one-time sum of nothing", impl.OneTime(full(32), []byte{}), full(16))
}

// summing answers so many whole pieces whose numbers, with their bytes behind them, come to the total.
func summing(r *rand.Rand, total *big.Int, pieces int) ([]byte, bool) {
	rest := new(big.Int).Sub(total, new(big.Int).Mul(big.NewInt(int64(pieces)), powerOf2(128)))
	most := plus(powerOf2(128), -1)
	var data []byte
	for left := pieces - 1; left >= 0; left-- {
		// What the others cannot take is the least that this piece may be.
		least := new(big.Int).Sub(rest, new(big.Int).Mul(big.NewInt(int64(left)), most))
		piece := bigOf(randomList(r, 16))
		if r.Intn(3) == 0 {
			piece = big.NewInt(0)
		}
		if piece.Cmp(least) < 0 {
			piece.Set(least)
		}
		if piece.Cmp(rest) > 0 {
			piece.Set(rest)
		}
		if piece.Sign() < 0 || piece.Cmp(most) > 0 {
			return nil, false
		}
		rest.Sub(rest, piece)
		data = append(data, lowBytesOf(piece, 16)...)
	}
	return data, rest.Sign() == 0
}

// With r = 1 the pieces are only added: their sum is a multiple of 2^130 - 5, or stands near one.
func TestOneTimeAroundThePrime(t *testing.T) {
	r := rand.New(rand.NewSource(104))
	made := 0
	for times := int64(1); times <= 12; times++ {
		for beside := int64(-12); beside <= 12; beside++ {
			total := plus(new(big.Int).Mul(big.NewInt(times), sumP()), beside)
			for pieces := int(2 * times); pieces <= int(4*times); pieces++ {
				data, ok := summing(r, total, pieces)
				if !ok {
					continue
				}
				made++
				want := new(big.Int).Mod(total, sumP())
				want.Mod(want, powerOf2(128))
				checkList(t, "one-time sum near the prime", impl.OneTime(smallSumKey(1, 0), data), lowBytesOf(want, 16), data)
				checkOneTime(t, sumKey(big.NewInt(1), bigOf(randomList(r, 16))), data)
				checkOneTime(t, sumKey(big.NewInt(1), plus(powerOf2(128), -1)), data)
			}
		}
	}
	if made < 2000 {
		t.Errorf("only %d sums near the prime", made)
	}
}

// The three that the prime itself tells: at 2^130 - 5 the sum is 0, below it the greatest number, above it 1.
func TestOneTimeAtThePrime(t *testing.T) {
	for _, one := range []struct {
		beside int64
		want   []byte
	}{
		{-1, lowBytesOf(plus(powerOf2(128), -6), 16)},
		{0, make([]byte, 16)},
		{1, append([]byte{1}, make([]byte, 15)...)},
	} {
		// Three bytes behind come to 3 times 2^128; what is left up to the prime is 2^128 - 5.
		first := lowBytesOf(plus(powerOf2(128), -5+one.beside), 16)
		for place := range 3 {
			data := make([]byte, 48)
			copy(data[16*place:], first)
			checkList(t, "one-time sum at the prime", impl.OneTime(smallSumKey(1, 0), data), one.want, data)
		}
	}
}

// lastPiece answers a piece behind the data after which the number is the target, if there is one.
func lastPiece(r *big.Int, data []byte, target *big.Int) ([]byte, bool) {
	p := sumP()
	piece := new(big.Int).ModInverse(r, p)
	piece.Mul(piece, target).Sub(piece, toldNumber(r, data)).Sub(piece, powerOf2(128))
	piece.Mod(piece, p)
	if piece.BitLen() > 128 {
		return nil, false
	}
	return lowBytesOf(piece, 16), true
}

// sumTargets are numbers below 2^130 - 5 at its ends, and those that fill or just leave a limb.
func sumTargets() []*big.Int {
	var targets []*big.Int
	for n := int64(0); n < 12; n++ {
		targets = append(targets, big.NewInt(n), plus(sumP(), -1-n))
	}
	for _, bit := range []uint{26, 32, 44, 52, 64, 78, 88, 96, 104, 128, 129} {
		targets = append(targets, plus(powerOf2(bit), -1), powerOf2(bit), new(big.Int).Sub(sumP(), powerOf2(bit)))
	}
	return targets
}

// The number is brought to a target on the way or at the end, with any r.
func TestOneTimeReachingTargets(t *testing.T) {
	r := rand.New(rand.NewSource(105))
	factors := sumFactors()
	made := 0
	for _, target := range sumTargets() {
		for range 60 {
			key := randomList(r, 32)
			if r.Intn(2) == 0 {
				copy(key, lowBytesOf(factors[1+r.Intn(len(factors)-1)], 16))
			}
			factor, data := toldFactor(key), randomList(r, 16*r.Intn(4))
			if factor.Sign() == 0 {
				continue
			}
			last, ok := lastPiece(factor, data, target)
			if !ok {
				continue
			}
			made++
			data = append(data, last...)
			checkOneTime(t, key, data)
			checkOneTime(t, key, append(data, full(16)...))
			checkOneTime(t, key, append(data, randomList(r, r.Intn(40))...))
		}
	}
	if made < 500 {
		t.Errorf("only %d targets reached", made)
	}
}

// The sum goes over 2^128 by adding s, just reaches it, or just does not; so do its lower halves.
func TestOneTimeAddedOver(t *testing.T) {
	r := rand.New(rand.NewSource(106))
	for range 200 {
		key, data := randomList(r, 32), randomList(r, 1+r.Intn(100))
		number := toldNumber(toldFactor(key), data)
		for _, bit := range []uint{32, 64, 96, 128} {
			low := new(big.Int).Mod(number, powerOf2(bit))
			for beside := int64(-2); beside <= 2; beside++ {
				s := plus(new(big.Int).Sub(powerOf2(bit), low), beside)
				s.Mod(s, powerOf2(128))
				checkOneTime(t, append(bytes.Clone(key[:16]), lowBytesOf(s, 16)...), data)
			}
		}
		checkOneTime(t, append(bytes.Clone(key[:16]), full(16)...), data)
	}
	checkList(t, "one-time sum over 2^128", impl.OneTime(append(smallSumKey(1, 0)[:16], full(16)...), []byte{1}), append([]byte{0, 1}, make([]byte, 14)...))
}

// A short piece is another than the one with zeros behind it.
func TestOneTimeShortPieces(t *testing.T) {
	r := rand.New(rand.NewSource(107))
	for n := range 70 {
		key, data := randomList(r, 32), randomList(r, n)
		sum := impl.OneTime(key, data)
		for zeros := 1; zeros < 20; zeros++ {
			if bytes.Equal(sum, impl.OneTime(key, slices.Concat(data, make([]byte, zeros)))) {
				t.Errorf("%x has the sum of itself with %d zeros behind", data, zeros)
			}
		}
	}
}

func TestOneTimeWrongKeys(t *testing.T) {
	r := rand.New(rand.NewSource(108))
	for _, key := range notOfSize(r, impl.KeySize) {
		for _, n := range []int{0, 1, 16, 17, 100} {
			if got := impl.OneTime(key, randomList(r, n)); len(got) != 0 {
				t.Errorf("one-time sum with %x: %x", key, got)
			}
		}
	}
}

func TestOneTimeMemory(t *testing.T) {
	r := rand.New(rand.NewSource(109))
	for n := range 100 {
		for _, size := range []int{0, 31, 32, 33} {
			checkMemory(t, "one-time sum", ofTwoLists(impl.OneTime), randomList(r, size), randomList(r, n))
			checkMemory(t, "one-time sum", ofTwoLists(impl.OneTime), full(size), full(n))
		}
	}
	checkMemory(t, "one-time sums", func(args [][]byte) [][]byte {
		return [][]byte{impl.OneTime(args[0][:32], args[0]), impl.OneTime(args[0][8:40], args[0][8:]), impl.OneTime(args[0][:32], args[0])}
	}, randomList(r, 60))
}
