package tests

import (
	"bytes"
	"crypto/sha256"
	"crypto/sha512"
	"math"
	"math/big"
	"math/rand"
	"slices"
	"testing"

	"loop.example/g00004/impl"
)

// What chapter 6 says of the two hashes of whole lists, of their words and of their padding.

// toldMake is a column of the chapter's table, and what the chapter says of its words. The third number of g0 and g1
// is one of shifting, all others are of turning.
type toldMake struct {
	name       string
	bits       uint
	block      int
	lengthSize int
	steps      int
	g0, g1     [3]uint
	G0, G1     [3]uint
	startWords []uint64
	stepWords  []uint64
}

func toldShort() toldMake {
	m := toldMake{
		name: "short", bits: 32, block: 64, lengthSize: 8, steps: 64,
		g0: [3]uint{7, 18, 3}, g1: [3]uint{17, 19, 10}, G0: [3]uint{2, 13, 22}, G1: [3]uint{6, 11, 25},
	}
	return m.withWords()
}

func toldLong() toldMake {
	m := toldMake{
		name: "long", bits: 64, block: 128, lengthSize: 16, steps: 80,
		g0: [3]uint{1, 8, 7}, g1: [3]uint{19, 61, 6}, G0: [3]uint{28, 34, 39}, G1: [3]uint{14, 18, 41},
	}
	return m.withWords()
}

func firstPrimes(n int) []int64 {
	var primes []int64
	for p := int64(2); len(primes) < n; p++ {
		if big.NewInt(p).ProbablyPrime(0) {
			primes = append(primes, p)
		}
	}
	return primes
}

func powerOf(n *big.Int, exponent int64) *big.Int {
	return new(big.Int).Exp(n, big.NewInt(exponent), nil)
}

// rootBelow is the root of n, rounded down: bits are taken from the highest on, as long as the power stays within n.
func rootBelow(n *big.Int, degree int64) *big.Int {
	root := new(big.Int)
	for i := n.BitLen(); i >= 0; i-- {
		with := new(big.Int).Add(root, powerOf2(uint(i)))
		if powerOf(with, degree).Cmp(n) <= 0 {
			root = with
		}
	}
	return root
}

// underRoot is p times 2 to the power of as many words as the root has degrees.
func (m toldMake) underRoot(p int64, degree int64) *big.Int {
	return new(big.Int).Lsh(big.NewInt(p), m.bits*uint(degree))
}

func (m toldMake) rootWord(p int64, degree int64) uint64 {
	root := rootBelow(m.underRoot(p, degree), degree)
	return new(big.Int).Mod(root, powerOf2(m.bits)).Uint64()
}

func (m toldMake) withWords() toldMake {
	for _, p := range firstPrimes(8) {
		m.startWords = append(m.startWords, m.rootWord(p, 2))
	}
	for _, p := range firstPrimes(m.steps) {
		m.stepWords = append(m.stepWords, m.rootWord(p, 3))
	}
	return m
}

// word takes a sum modulo 2 to the number of bits.
func (m toldMake) word(x uint64) uint64 {
	return x & (math.MaxUint64 >> (64 - m.bits))
}

func (m toldMake) turnedRight(x uint64, n uint) uint64 {
	return x>>n + m.word(x<<(m.bits-n))
}

func (m toldMake) small(x uint64, n [3]uint) uint64 {
	return m.turnedRight(x, n[0]) ^ m.turnedRight(x, n[1]) ^ x>>n[2]
}

func (m toldMake) great(x uint64, n [3]uint) uint64 {
	return m.turnedRight(x, n[0]) ^ m.turnedRight(x, n[1]) ^ m.turnedRight(x, n[2])
}

func (m toldMake) readWords(b []byte) []uint64 {
	var words []uint64
	for one := range slices.Chunk(b, int(m.bits)/8) {
		words = append(words, bigOf(one).Uint64())
	}
	return words
}

func (m toldMake) bytes(words []uint64) []byte {
	var b []byte
	for _, w := range words {
		b = append(b, new(big.Int).SetUint64(w).FillBytes(make([]byte, m.bits/8))...)
	}
	return b
}

func (m toldMake) blockWords(block []byte) []uint64 {
	w := m.readWords(block)
	for i := 16; i < m.steps; i++ {
		w = append(w, m.word(m.small(w[i-2], m.g1)+w[i-7]+m.small(w[i-15], m.g0)+w[i-16]))
	}
	return w
}

// behindBlocks is the state behind whole blocks.
func (m toldMake) behindBlocks(state []uint64, blocks []byte) []uint64 {
	for block := range slices.Chunk(blocks, m.block) {
		w, s := m.blockWords(block), slices.Clone(state)
		for i := range m.steps {
			a, b, c, e, f, g, h := s[0], s[1], s[2], s[4], s[5], s[6], s[7]
			first := h + m.great(e, m.G1) + ((e & f) ^ (m.word(^e) & g)) + m.stepWords[i] + w[i]
			second := m.great(a, m.G0) + ((a & b) ^ (a & c) ^ (b & c))
			s = append([]uint64{m.word(first + second)}, s[:7]...)
			s[4] = m.word(s[4] + first)
		}
		for i := range s {
			s[i] = m.word(s[i] + state[i])
		}
		state = s
	}
	return state
}

// pad tries one byte 0 more until the whole is made of blocks.
func (m toldMake) pad(n int64) []byte {
	eightfold := new(big.Int).Mul(big.NewInt(8), big.NewInt(n))
	length := eightfold.FillBytes(make([]byte, m.lengthSize))
	pad := []byte{128}
	for (n+int64(len(pad)+len(length)))%int64(m.block) != 0 {
		pad = append(pad, 0)
	}
	return append(pad, length...)
}

func (m toldMake) hash(data []byte) []byte {
	whole := slices.Concat(data, m.pad(int64(len(data))))
	return m.bytes(m.behindBlocks(m.startWords, whole))
}

func libraryShort(data []byte) []byte {
	sum := sha256.Sum256(data)
	return sum[:]
}

func libraryLong(data []byte) []byte {
	sum := sha512.Sum512(data)
	return sum[:]
}

func checkLibrary(t *testing.T, data []byte) {
	t.Helper()
	if got, want := impl.Hash(data), libraryShort(data); !bytes.Equal(got, want) {
		t.Errorf("hash of %d bytes: got %x, want %x", len(data), got, want)
	}
	if got, want := impl.HashLong(data), libraryLong(data); !bytes.Equal(got, want) {
		t.Errorf("long hash of %d bytes: got %x, want %x", len(data), got, want)
	}
}

func checkHashes(t *testing.T, short toldMake, long toldMake, data []byte) {
	t.Helper()
	checkList(t, "hash", impl.Hash(data), short.hash(data), data)
	checkList(t, "long hash", impl.HashLong(data), long.hash(data), data)
	checkLibrary(t, data)
}

// upwards has the bytes 0, 1, 2 and so on.
func upwards(n int) []byte {
	b := make([]byte, n)
	for i := range b {
		b[i] = byte(i)
	}
	return b
}

func TestHashExample(t *testing.T) {
	got := impl.Hash([]byte("abc"))
	if len(got) != impl.HashSize || !bytes.HasPrefix(got, []byte{186, 120, 22, 191}) || !bytes.HasSuffix(got, []byte{242, 0, 21, 173}) {
		t.Errorf("hash of abc: got %x", got)
	}
	if got := impl.HashLong([]byte("abc")); len(got) != impl.LongSize {
		t.Errorf("long hash of abc: got %x", got)
	}
	if impl.HashSize != 32 || impl.LongSize != 64 || impl.MaxHashed != 1<<40 {
		t.Error("constants", impl.HashSize, impl.LongSize, int64(impl.MaxHashed))
	}
}

func TestHashAtEveryLength(t *testing.T) {
	short, long := toldShort(), toldLong()
	r := rand.New(rand.NewSource(52))
	for n := range 600 {
		checkHashes(t, short, long, randomList(r, n))
		checkHashes(t, short, long, make([]byte, n))
		checkHashes(t, short, long, full(n))
	}
	checkHashes(t, short, long, nil)
}

// The lengths at which the padding begins a block of its own, and those at which a block ends.
func TestHashAroundBlocks(t *testing.T) {
	short, long := toldShort(), toldLong()
	r := rand.New(rand.NewSource(53))
	for blocks := range 20 {
		for _, edge := range []int{0, 55, 56, 63, 64, 111, 112, 119, 120, 127, 128} {
			for n := max(0, 128*blocks+edge-1); n <= 128*blocks+edge+1; n++ {
				checkHashes(t, short, long, randomList(r, n))
				checkLibrary(t, upwards(n))
			}
		}
	}
}

func TestHashLongLists(t *testing.T) {
	r := rand.New(rand.NewSource(54))
	for range 100 {
		checkLibrary(t, randomList(r, r.Intn(20000)))
	}
	// From 2^21 bytes on the length in the padding needs a fourth byte.
	for _, n := range []int{8191, 8192, 65535, 65536, 1<<21 - 1, 1 << 21, 1<<21 + 1} {
		checkLibrary(t, randomList(r, n))
	}
}

// One bit of the data on, at each place of a block.
func TestHashOfSingleBits(t *testing.T) {
	short, long := toldShort(), toldLong()
	for i := range 8 * 128 {
		data := make([]byte, 128)
		data[i/8] = 1 << (i % 8)
		checkHashes(t, short, long, data)
		checkHashes(t, short, long, data[:i/8+1])
	}
}

func checkRootBelow(t *testing.T, n *big.Int, degree int64) {
	t.Helper()
	root := rootBelow(n, degree)
	if powerOf(root, degree).Cmp(n) > 0 || powerOf(plus(root, 1), degree).Cmp(n) <= 0 {
		t.Errorf("%v is not the root of %v", root, n)
	}
}

func TestHashWordsAreRoots(t *testing.T) {
	for _, m := range []toldMake{toldShort(), toldLong()} {
		for _, p := range firstPrimes(8) {
			checkRootBelow(t, m.underRoot(p, 2), 2)
		}
		for _, p := range firstPrimes(m.steps) {
			checkRootBelow(t, m.underRoot(p, 3), 3)
		}
		if primes := firstPrimes(m.steps); primes[7] != 19 || len(primes) != m.steps || len(m.stepWords) != m.steps {
			t.Errorf("%s: primes %v", m.name, primes)
		}
	}
	short := toldShort()
	checkList(t, "start words", impl.HashStart().Words, short.bytes(short.startWords))
}

// The answers are those of the roots, and each bit of each word plays its part in them.
func TestHashHangsOnEachWord(t *testing.T) {
	r := rand.New(rand.NewSource(55))
	for _, m := range []toldMake{toldShort(), toldLong()} {
		call := impl.Hash
		if m.bits == 64 {
			call = impl.HashLong
		}
		data := randomList(r, 40)
		got := call(data)
		checkList(t, m.name, got, m.hash(data), data)
		for _, words := range [][]uint64{m.startWords, m.stepWords} {
			for i := range words {
				for bit := range m.bits {
					words[i] ^= 1 << bit
					if bytes.Equal(got, m.hash(data)) {
						t.Errorf("%s: bit %d of word %d plays no part", m.name, bit, i)
					}
					words[i] ^= 1 << bit
				}
			}
		}
	}
}

// checkPad holds the padding to P10 by itself, and then to the chapter.
func checkPad(t *testing.T, m toldMake, n int64, got []byte) {
	t.Helper()
	if len(got) < 1+m.lengthSize {
		t.Errorf("%s padding behind %d bytes: no room for the length in %x", m.name, n, got)
		return
	}
	if (n+int64(len(got)))%int64(m.block) != 0 {
		t.Errorf("%s padding behind %d bytes: %d bytes make no whole blocks", m.name, n, len(got))
	}
	if len(got)-m.block >= 1+m.lengthSize {
		t.Errorf("%s padding behind %d bytes: %d bytes are a block too many", m.name, n, len(got))
	}
	zeros, length := got[1:len(got)-m.lengthSize], got[len(got)-m.lengthSize:]
	if got[0] != 128 || len(bytes.Trim(zeros, "\x00")) != 0 {
		t.Errorf("%s padding behind %d bytes: begins with %x", m.name, n, got)
	}
	if bigOf(length).Cmp(new(big.Int).Lsh(big.NewInt(n), 3)) != 0 {
		t.Errorf("%s padding behind %d bytes: ends with %x", m.name, n, length)
	}
	if want := m.pad(n); !bytes.Equal(got, want) {
		t.Errorf("%s padding behind %d bytes: got %x, want %x", m.name, n, got, want)
	}
}

func TestPadding(t *testing.T) {
	short, long := toldShort(), toldLong()
	r := rand.New(rand.NewSource(56))
	var lengths []int64
	for n := range int64(700) {
		lengths = append(lengths, n, impl.MaxHashed-n)
	}
	// Around each power of 2 the length has a bit, and later a byte more.
	for i := range 40 {
		for n := range int64(260) {
			lengths = append(lengths, max(0, 1<<i-130+n))
		}
	}
	for range 2000 {
		lengths = append(lengths, r.Int63n(impl.MaxHashed+1))
	}
	for _, n := range lengths {
		checkPad(t, short, n, impl.HashPad(n))
		checkPad(t, long, n, impl.LongPad(n))
	}
}

func TestPaddingOutside(t *testing.T) {
	r := rand.New(rand.NewSource(57))
	lengths := []int64{math.MinInt64, math.MinInt64 + 1, math.MaxInt64 - 1, math.MaxInt64, math.MinInt32, 1 << 61, -1 << 61}
	for n := range int64(300) {
		lengths = append(lengths, -1-n, impl.MaxHashed+1+n)
	}
	for range 300 {
		n := r.Int63()
		lengths = append(lengths, -1-n, max(n, impl.MaxHashed+1))
	}
	for _, n := range lengths {
		if got := impl.HashPad(n); len(got) != 0 {
			t.Errorf("padding behind %d bytes: got %x", n, got)
		}
		if got := impl.LongPad(n); len(got) != 0 {
			t.Errorf("long padding behind %d bytes: got %x", n, got)
		}
	}
}

func TestHashMemory(t *testing.T) {
	r := rand.New(rand.NewSource(58))
	for n := range 300 {
		data := randomList(r, n)
		checkMemory(t, "hash", ofOneList(impl.Hash), data)
		checkMemory(t, "long hash", ofOneList(impl.HashLong), data)
		pads := func([][]byte) [][]byte {
			behind := int64(n)
			return [][]byte{impl.HashPad(behind), impl.HashPad(behind), impl.LongPad(behind), impl.LongPad(impl.MaxHashed - behind)}
		}
		checkMemory(t, "paddings", pads)
	}
}
