package tests

import (
	"bytes"
	"math"
	"math/big"
	"math/rand"
	"slices"
	"testing"

	"loop.example/g00004/impl"
)

// What chapter 8 says of the blocks and of the stream.

// toldSquare is a block as four rows of four numbers below 2^32.
type toldSquare [4][4]uint64

const toldWord = 1 << 32

const lastCounter = toldWord - 1

// toldTurn moves up, and what is above 2^32 comes in again from below.
func toldTurn(x uint64, n uint) uint64 {
	return x<<n%toldWord + x<<n/toldWord
}

// toldStep is a fourth of a quarter: all four are alike but for the order of the words.
func toldStep(a *uint64, b *uint64, d *uint64, n uint) {
	*a = (*a + *b) % toldWord
	*d = toldTurn(*d^*a, n)
}

func (s *toldSquare) columns() {
	for i := range 4 {
		a, b, c, d := &s[0][i], &s[1][i], &s[2][i], &s[3][i]
		toldStep(a, b, d, 16)
		toldStep(c, d, b, 12)
		toldStep(a, b, d, 8)
		toldStep(c, d, b, 7)
	}
}

// turnRows moves each row to the left by its place so many times, by which slanting lines become columns.
func (s *toldSquare) turnRows(times int) {
	for i, row := range s {
		for j := range 4 {
			s[i][j] = row[(j+i*times)%4]
		}
	}
}

func toldSquareOf(b []byte) toldSquare {
	var s toldSquare
	for i := range 16 {
		s[i/4][i%4] = bigOfLow(b[4*i : 4*i+4]).Uint64()
	}
	return s
}

// toldBlock begins with a text: its four words are those that the document tells as numbers.
func toldBlock(key []byte, counter int64, nonce []byte) []byte {
	first := slices.Concat([]byte("expand 32-byte k"), key, lowBytesOf(big.NewInt(counter), 4), nonce)
	start, s := toldSquareOf(first), toldSquareOf(first)
	for range 10 {
		s.columns()
		s.turnRows(1)
		s.columns()
		s.turnRows(3)
	}
	var block []byte
	for i := range 16 {
		word := (s[i/4][i%4] + start[i/4][i%4]) % toldWord
		block = append(block, lowBytesOf(new(big.Int).SetUint64(word), 4)...)
	}
	return block
}

func xored(a []byte, b []byte) []byte {
	c := make([]byte, min(len(a), len(b)))
	for i := range c {
		c[i] = a[i] ^ b[i]
	}
	return c
}

// toldStream makes all the blocks, and then lays them over the data.
func toldStream(key []byte, counter int64, nonce []byte, data []byte) []byte {
	var blocks []byte
	for len(blocks) < len(data) {
		blocks = append(blocks, toldBlock(key, counter, nonce)...)
		counter++
	}
	return xored(data, blocks)
}

// cipherStart is what a stream begins with.
type cipherStart struct {
	key     []byte
	nonce   []byte
	counter int64
}

// cipherLists are lists of n bytes of many kinds.
func cipherLists(r *rand.Rand, n int) [][]byte {
	lists := [][]byte{make([]byte, n), full(n), upwards(n), turned(upwards(n)), randomList(r, n)}
	for range 3 {
		one := make([]byte, n)
		one[r.Intn(n)] = 1 << r.Intn(8)
		lists = append(lists, one)
	}
	return lists
}

// cipherStarts have counters that leave room for some blocks.
func cipherStarts(r *rand.Rand) []cipherStart {
	counters := []int64{
		0, 1, 2, 254, 255, 256, 65534, 65535, 65536, 1<<24 - 1, 1 << 24,
		math.MaxInt32 - 1, math.MaxInt32, math.MaxInt32 + 1, lastCounter - 20,
	}
	var starts []cipherStart
	for _, key := range cipherLists(r, impl.KeySize) {
		for _, nonce := range cipherLists(r, impl.NonceSize) {
			starts = append(starts,
				cipherStart{key, nonce, counters[r.Intn(len(counters))]},
				cipherStart{key, nonce, r.Int63n(lastCounter - 20)})
		}
	}
	for _, counter := range counters {
		starts = append(starts, cipherStart{randomList(r, impl.KeySize), randomList(r, impl.NonceSize), counter})
	}
	return starts
}

// streamLengths end a block, stand beside its end, or are some hundred.
func streamLengths() []int {
	return []int{0, 1, 63, 64, 65, 127, 128, 129, 191, 192, 193, 300, 511, 512, 513, 700}
}

func (s cipherStart) xor(data []byte) []byte {
	return impl.StreamXor(s.key, s.counter, s.nonce, data)
}

// moved has the counter moved on.
func (s cipherStart) moved(blocks int) cipherStart {
	s.counter += int64(blocks)
	return s
}

func TestCipherConstants(t *testing.T) {
	if impl.KeySize != 32 || impl.NonceSize != 12 || impl.SumSize != 16 {
		t.Error("constants", impl.KeySize, impl.NonceSize, impl.SumSize)
	}
}

// The blocks that were published with the cipher.
func TestStreamPublished(t *testing.T) {
	none, last := make([]byte, 32), make([]byte, 32)
	last[31] = 1
	second := make([]byte, 32)
	second[1] = 255
	for _, one := range []struct {
		key     []byte
		counter int64
		nonce   string
		want    string
	}{
		{upwards(32), 1, "000000090000004a00000000", "10f1e7e4d13b5915500fdd1fa32071c4c7d1f4c733c068030422aa9ac3d46c4ed2826446079faa0914c2d705d98b02a2b5129cd1de164eb9cbd083e8a2503c4e"},
		{none, 0, "000000000000000000000000", "76b8e0ada0f13d90405d6ae55386bd28bdd219b8a08ded1aa836efcc8b770dc7da41597c5157488d7724e03fb8d84a376a43b8f41518a11cc387b669b2ee6586"},
		{none, 1, "000000000000000000000000", "9f07e7be5551387a98ba977c732d080dcb0f29a048e3656912c6533e32ee7aed29b721769ce64e43d57133b074d839d531ed1f28510afb45ace10a1f4b794d6f"},
		{last, 1, "000000000000000000000000", "3aeb5224ecf849929b9d828db1ced4dd832025e8018b8160b82284f3c949aa5a8eca00bbb4a73bdad192b5c42f73f2fd4e273644c8b36125a64addeb006c13a0"},
		{second, 2, "000000000000000000000000", "72d54dfbf12ec44b362692df94137f328fea8da73990265ec1bbbea1ae9af0ca13b25aa26cb4a648cb9b9d1be65b2c0924a66c54d545ec1b7374f4872e99f096"},
		{none, 0, "000000000000000000000002", "c2c64d378cd536374ae204b9ef933fcd1a8b2288b3dfa49672ab765b54ee27c78a970e0e955c14f3a88e741b97c286f75f8fc299e8148362fa198a39531bed6d"},
	} {
		nonce := fromHex(t, one.nonce)
		checkList(t, "block", impl.StreamBlock(one.key, one.counter, nonce), fromHex(t, one.want), one.key, nonce)
	}
	text := "Ladies and Gentlemen of the class of '99: If I could offer you only one tip for the future, sunscreen would be it."
	want := "6e2e359a2568f98041ba0728dd0d6981e97e7aec1d4360c20a27afccfd9fae0bf91b65c5524733ab8f593dabcd62b357" +
		"1639d624e65152ab8f530c359f0861d807ca0dbf500d6a6156a38e088a22b65e52bc514d16ccf806818ce91ab77937365af90bbf74a35be6" +
		"b40b8eedf2785e42874d"
	got := impl.StreamXor(upwards(32), 1, fromHex(t, "000000000000004a00000000"), []byte(text))
	checkList(t, "stream", got, fromHex(t, want))
}

func TestStreamBlockTold(t *testing.T) {
	r := rand.New(rand.NewSource(90))
	for _, s := range cipherStarts(r) {
		for _, counter := range []int64{0, 1, lastCounter - 1, lastCounter, s.counter, r.Int63n(lastCounter + 1)} {
			want := toldBlock(s.key, counter, s.nonce)
			checkList(t, "block", impl.StreamBlock(s.key, counter, s.nonce), want, s.key, s.nonce)
		}
	}
}

// One bit on at each place of the key, of the nonce and of the counter.
func TestStreamBlockOfSingleBits(t *testing.T) {
	for i := range 8 * (impl.KeySize + impl.NonceSize + 4) {
		all := make([]byte, impl.KeySize+impl.NonceSize+4)
		all[i/8] = 1 << (i % 8)
		key, nonce := all[:impl.KeySize], all[impl.KeySize:impl.KeySize+impl.NonceSize]
		counter := bigOfLow(all[impl.KeySize+impl.NonceSize:]).Int64()
		checkList(t, "block", impl.StreamBlock(key, counter, nonce), toldBlock(key, counter, nonce), key, nonce)
	}
}

func TestStreamXorTold(t *testing.T) {
	r := rand.New(rand.NewSource(91))
	for _, s := range cipherStarts(r) {
		for _, n := range []int{1, 64, 65, 130 + r.Intn(600)} {
			data := randomList(r, n)
			checkList(t, "stream", s.xor(data), toldStream(s.key, s.counter, s.nonce, data), s.key, s.nonce, data)
		}
	}
	s := cipherStart{upwards(32), upwards(12), 7}
	for n := range 400 {
		data := randomList(r, n)
		checkList(t, "stream", s.xor(data), toldStream(s.key, s.counter, s.nonce, data), data)
	}
}

func checkStreamTwice(t *testing.T, s cipherStart, data []byte) {
	t.Helper()
	once := s.xor(data)
	if len(once) != len(data) {
		t.Errorf("the stream over %d bytes has %d", len(data), len(once))
	}
	checkList(t, "stream twice", s.xor(once), data, s.key, s.nonce, once)
}

func checkStreamCut(t *testing.T, s cipherStart, data []byte) {
	t.Helper()
	whole := s.xor(data)
	for cut := 0; cut <= len(data); cut += 64 {
		parts := slices.Concat(s.xor(data[:cut]), s.moved(cut/64).xor(data[cut:]))
		checkList(t, "stream in two parts", parts, whole, s.key, s.nonce, data)
	}
}

func checkStreamBlocks(t *testing.T, s cipherStart, data []byte) {
	t.Helper()
	told := s.xor(data)
	for i := 0; i < len(data); i += 64 {
		end := min(i+64, len(data))
		block := impl.StreamBlock(s.key, s.counter+int64(i/64), s.nonce)
		if len(block) != 64 {
			t.Errorf("a block of %d bytes", len(block))
			return
		}
		checkList(t, "piece of the stream", told[i:end], xored(data[i:end], block), s.key, s.nonce, data)
	}
}

func TestPromise12TwiceIsTheData(t *testing.T) {
	r := rand.New(rand.NewSource(92))
	for _, s := range cipherStarts(r) {
		for _, n := range streamLengths() {
			checkStreamTwice(t, s, randomList(r, n))
			checkStreamTwice(t, s, make([]byte, n))
		}
		checkStreamTwice(t, s, randomList(r, r.Intn(1000)))
		checkStreamTwice(t, s, nil)
	}
}

func TestPromise12CutIsTheParts(t *testing.T) {
	r := rand.New(rand.NewSource(93))
	for _, s := range cipherStarts(r) {
		for _, n := range streamLengths() {
			checkStreamCut(t, s, randomList(r, n))
		}
		checkStreamCut(t, s, make([]byte, r.Intn(1000)))
	}
}

func TestPromise12PiecesAreBlocks(t *testing.T) {
	r := rand.New(rand.NewSource(94))
	for _, s := range cipherStarts(r) {
		for _, n := range streamLengths() {
			checkStreamBlocks(t, s, randomList(r, n))
			checkStreamBlocks(t, s, make([]byte, n))
		}
	}
}

// Data of many blocks, and those that take the counters up to the last one.
func TestPromise12LongData(t *testing.T) {
	r := rand.New(rand.NewSource(95))
	for _, n := range []int{4096, 16385, 40000} {
		s := cipherStart{randomList(r, 32), randomList(r, 12), 65530}
		data := randomList(r, n)
		checkStreamTwice(t, s, data)
		checkStreamBlocks(t, s, data)
		s.counter = lastCounter - int64(n-1)/64
		checkStreamTwice(t, s, data)
		checkStreamBlocks(t, s, data)
	}
	for blocks := 1; blocks <= 12; blocks++ {
		s := cipherStart{randomList(r, 32), randomList(r, 12), int64(lastCounter - blocks + 1)}
		for _, n := range []int{64*blocks - 63, 64*blocks - 1, 64 * blocks} {
			data := randomList(r, n)
			checkStreamTwice(t, s, data)
			checkStreamCut(t, s, data)
			checkStreamBlocks(t, s, data)
		}
	}
}

func TestStreamEndOfCounters(t *testing.T) {
	r := rand.New(rand.NewSource(96))
	for blocks := range 20 {
		s := cipherStart{randomList(r, 32), randomList(r, 12), int64(lastCounter - blocks)}
		for n := range 64*blocks + 200 {
			want := n
			if n > 64*(blocks+1) {
				want = 0
			}
			if got := s.xor(make([]byte, n)); len(got) != want {
				t.Errorf("counter %d: the stream over %d bytes has %d", s.counter, n, len(got))
			}
		}
		for _, n := range []int{1 << 16, 1<<16 + 1, 1 << 20} {
			if got := s.xor(make([]byte, n)); len(got) != 0 {
				t.Errorf("counter %d: the stream over %d bytes has %d", s.counter, n, len(got))
			}
		}
	}
}

// outsideCounters are no counters; cut to fewer bits many of them would be.
func outsideCounters() []int64 {
	counters := []int64{
		-1, -2, -64, -lastCounter, -lastCounter - 1, lastCounter + 1, lastCounter + 2, 2*lastCounter + 1,
		math.MinInt64, math.MinInt64 + 1, math.MinInt64 + 64, math.MaxInt64 - 64, math.MaxInt64 - 1, math.MaxInt64,
	}
	for shift := 32; shift < 63; shift++ {
		for _, n := range []int64{0, 1, lastCounter} {
			counters = append(counters, n+1<<shift, n-1<<shift-1<<32)
		}
	}
	return counters
}

func TestStreamOutsideCounters(t *testing.T) {
	key, nonce := upwards(32), upwards(12)
	for _, counter := range []int64{0, 1, lastCounter - 1, lastCounter} {
		if got := impl.StreamBlock(key, counter, nonce); len(got) != 64 {
			t.Errorf("the block of %d has %d bytes", counter, len(got))
		}
	}
	for _, counter := range outsideCounters() {
		if got := impl.StreamBlock(key, counter, nonce); len(got) != 0 {
			t.Errorf("the block of %d: %x", counter, got)
		}
		for _, n := range []int{0, 1, 63, 64, 65, 128, 300} {
			if got := impl.StreamXor(key, counter, nonce, make([]byte, n)); len(got) != 0 {
				t.Errorf("the stream from %d on over %d bytes: %x", counter, n, got)
			}
		}
	}
}

// notOfSize are lists of many lengths, but for one.
func notOfSize(r *rand.Rand, size int) [][]byte {
	lists := [][]byte{nil, make([]byte, 1000), randomList(r, 256+size), randomList(r, 65536+size)}
	for n := range 80 {
		if n != size {
			lists = append(lists, make([]byte, n), randomList(r, n), full(n))
		}
	}
	return lists
}

// keysAndNonces are pairs of which the key or the nonce or both have another length.
func keysAndNonces(r *rand.Rand) [][2][]byte {
	var pairs [][2][]byte
	for _, key := range notOfSize(r, impl.KeySize) {
		pairs = append(pairs, [2][]byte{key, randomList(r, impl.NonceSize)})
	}
	for _, nonce := range notOfSize(r, impl.NonceSize) {
		pairs = append(pairs, [2][]byte{randomList(r, impl.KeySize), nonce})
	}
	for _, n := range []int{0, 11, 12, 13, 31, 33} {
		for _, m := range []int{0, 11, 13, 31, 32, 33} {
			pairs = append(pairs, [2][]byte{randomList(r, n), randomList(r, m)})
		}
	}
	return pairs
}

func TestStreamWrongKeysAndNonces(t *testing.T) {
	r := rand.New(rand.NewSource(97))
	for _, pair := range keysAndNonces(r) {
		for _, counter := range []int64{0, 1, lastCounter, -1, lastCounter + 1} {
			if got := impl.StreamBlock(pair[0], counter, pair[1]); len(got) != 0 {
				t.Errorf("block of %x and %x: %x", pair[0], pair[1], got)
			}
			for _, n := range []int{0, 1, 64, 65} {
				if got := impl.StreamXor(pair[0], counter, pair[1], make([]byte, n)); len(got) != 0 {
					t.Errorf("stream of %x and %x: %x", pair[0], pair[1], got)
				}
			}
		}
	}
}

func ofStream(counter int64) func(args [][]byte) [][]byte {
	return func(args [][]byte) [][]byte {
		return [][]byte{
			impl.StreamBlock(args[0], counter, args[1]), impl.StreamXor(args[0], counter, args[1], args[2]),
			impl.StreamXor(args[0], counter, args[1], args[2]), impl.StreamBlock(args[0], counter, args[1]),
		}
	}
}

func TestStreamMemory(t *testing.T) {
	r := rand.New(rand.NewSource(98))
	counters := []int64{0, 1, lastCounter - 2, lastCounter, lastCounter + 1, -1}
	for range 50 {
		for _, counter := range counters {
			for _, n := range []int{0, 1, 64, 65, r.Intn(300)} {
				key, nonce := randomList(r, 31+r.Intn(2)), randomList(r, 12-r.Intn(2))
				checkMemory(t, "stream", ofStream(counter), key, nonce, randomList(r, n))
				checkMemory(t, "stream", ofStream(counter), upwards(32), upwards(12), randomList(r, n))
			}
		}
	}
}

// Key, nonce and data may be pieces of one room.
func TestStreamOfOneRoom(t *testing.T) {
	room := upwards(200)
	before := bytes.Clone(room)
	for i := range 100 {
		key, nonce, data := room[i:i+32], room[i+5:i+17], room[i:i+100]
		want := toldStream(bytes.Clone(key), 3, bytes.Clone(nonce), bytes.Clone(data))
		checkList(t, "stream", impl.StreamXor(key, 3, nonce, data), want, key, nonce, data)
		checkList(t, "room", room, before)
	}
}
