package tests

import (
	"bytes"
	"crypto/hkdf"
	"crypto/hmac"
	"crypto/sha256"
	"math/big"
	"math/rand"
	"slices"
	"testing"

	"loop.example/g00004/impl"
)

// What chapter 7 says of the keyed sum, of Extract and of Expand.

// toldKeys is chapter 7 done by whole numbers and by whole lists, on top of chapter 6 done another way.
type toldKeys struct {
	make toldMake
}

func toldKeysOf() toldKeys {
	return toldKeys{make: toldShort()}
}

// masked is K xor one byte in each of its places, as one number of 64 bytes.
func masked(k []byte, one byte) []byte {
	mask := bigOf(bytes.Repeat([]byte{one}, 64))
	return mask.Xor(mask, bigOf(k)).FillBytes(make([]byte, 64))
}

// filled has bytes 0 behind it, up to 64: the number is moved up by as many bytes.
func filled(key []byte) []byte {
	moved := new(big.Int).Lsh(bigOf(key), uint(8*(64-len(key))))
	return moved.FillBytes(make([]byte, 64))
}

func (k toldKeys) mac(key []byte, data []byte) []byte {
	if len(key) >= 65 {
		key = k.make.hash(key)
	}
	inner := k.make.hash(slices.Concat(masked(filled(key), 54), data))
	return k.make.hash(slices.Concat(masked(filled(key), 92), inner))
}

// macOf is a keyed sum: the one that is told here, or the one of the program.
type macOf func(key []byte, data []byte) []byte

// toldExpand makes all the pieces, and cuts then.
func toldExpand(mac macOf, key []byte, info []byte, n int) []byte {
	var all, last []byte
	for number := 1; number <= 255; number++ {
		last = mac(key, slices.Concat(last, info, []byte{byte(number)}))
		all = append(all, last...)
		if len(all) >= n {
			break
		}
	}
	return all[:n]
}

func libraryMac(key []byte, data []byte) []byte {
	sum := hmac.New(sha256.New, key)
	sum.Write(data)
	return sum.Sum(nil)
}

func libraryExpand(t *testing.T, key []byte, info []byte, n int) []byte {
	t.Helper()
	made, err := hkdf.Expand(sha256.New, key, string(info), n)
	if err != nil {
		t.Fatal(err)
	}
	return made
}

// blockLengths are those at which a list ends a piece, a block or two of them, and their neighbours.
func blockLengths() []int {
	return []int{0, 1, 31, 32, 33, 63, 64, 65, 127, 128, 129}
}

func checkMac(t *testing.T, k toldKeys, key []byte, data []byte) {
	t.Helper()
	want := k.mac(key, data)
	checkList(t, "sum", impl.Mac(key, data), want, key, data)
	checkList(t, "extract", impl.Extract(key, data), want, key, data)
	checkList(t, "library", libraryMac(key, data), want, key, data)
}

func checkMacLibrary(t *testing.T, key []byte, data []byte) {
	t.Helper()
	want := libraryMac(key, data)
	checkList(t, "sum", impl.Mac(key, data), want, key, data)
	checkList(t, "extract", impl.Extract(key, data), want, key, data)
}

func TestKeysConstants(t *testing.T) {
	if impl.MaxExpand != 8160 || impl.MaxLabel != 200 {
		t.Error("constants", impl.MaxExpand, impl.MaxLabel)
	}
}

func TestMacAroundBlocks(t *testing.T) {
	k := toldKeysOf()
	r := rand.New(rand.NewSource(71))
	for _, n := range blockLengths() {
		for _, m := range blockLengths() {
			checkMac(t, k, randomList(r, n), randomList(r, m))
			checkMac(t, k, full(n), make([]byte, m))
			checkMac(t, k, make([]byte, n), full(m))
			checkMac(t, k, upwards(n), upwards(m))
		}
	}
	checkMac(t, k, nil, nil)
}

func TestMacAtEveryLength(t *testing.T) {
	k := toldKeysOf()
	r := rand.New(rand.NewSource(72))
	for n := range 300 {
		checkMac(t, k, randomList(r, n), randomList(r, 40))
		checkMac(t, k, randomList(r, 40), randomList(r, n))
		checkMac(t, k, randomList(r, r.Intn(200)), randomList(r, r.Intn(200)))
	}
}

func TestMacLongLists(t *testing.T) {
	r := rand.New(rand.NewSource(73))
	for range 100 {
		checkMacLibrary(t, randomList(r, r.Intn(10000)), randomList(r, r.Intn(10000)))
	}
	for _, n := range []int{8191, 8192, 65535, 65536, 1 << 18} {
		checkMacLibrary(t, randomList(r, n), randomList(r, 65))
		checkMacLibrary(t, randomList(r, 32), randomList(r, n))
	}
}

// One bit of the key on, at each place of the block that is made of it.
func TestMacOfSingleBits(t *testing.T) {
	k := toldKeysOf()
	for i := range 8 * 64 {
		key := make([]byte, 64)
		key[i/8] = 1 << (i % 8)
		checkMac(t, k, key, []byte("data"))
		checkMac(t, k, key[:i/8+1], nil)
	}
}

// Key and data are two things: what stands at the end of the one is not the same at the beginning of the other.
func TestMacTellsKeyFromData(t *testing.T) {
	whole := upwards(100)
	var seen [][]byte
	for n := range 101 {
		sum := impl.Mac(whole[:n], whole[n:])
		if slices.ContainsFunc(seen, func(one []byte) bool { return bytes.Equal(one, sum) }) {
			t.Errorf("the key of the first %d bytes has the sum of a shorter one", n)
		}
		seen = append(seen, sum)
	}
}

// The sums and the expanded keys that were published with the two makes.
func TestKeysPublished(t *testing.T) {
	test := []byte("Test Using Larger Than Block-Size Key - Hash Key First")
	sums := []struct {
		key, data []byte
		want      string
	}{
		{bytes.Repeat([]byte{0x0b}, 20), []byte("Hi There"), "b0344c61d8db38535ca8afceaf0bf12b881dc200c9833da726e9376c2e32cff7"},
		{[]byte("Jefe"), []byte("what do ya want for nothing?"), "5bdcc146bf60754e6a042426089575c75a003f089d2739839dec58b964ec3843"},
		{bytes.Repeat([]byte{0xaa}, 20), bytes.Repeat([]byte{0xdd}, 50), "773ea91e36800e46854db8ebd09181a72959098b3ef8c122d9635514ced565fe"},
		{bytes.Repeat([]byte{0xaa}, 131), test, "60e431591ee0b67f0d8a26aacbf5b77f8e0bc6213728c5140546040f0ee37f54"},
	}
	for _, one := range sums {
		checkList(t, "sum", impl.Mac(one.key, one.data), fromHex(t, one.want), one.key, one.data)
	}
	salt, input, info := upwards(13), bytes.Repeat([]byte{0x0b}, 22), fromHex(t, "f0f1f2f3f4f5f6f7f8f9")
	key := impl.Extract(salt, input)
	checkList(t, "extract", key, fromHex(t, "077709362c2e32df0ddc3f0dc47bba6390b6c73bb50f9c3122ec844ad7c2b3e5"))
	want := "3cb25f25faacd57a90434f64d0362f2a2d2d0a90cf1a5a4c5db02d56ecc4c5bf34007208d5b887185865"
	checkList(t, "expand", impl.Expand(key, info, 42), fromHex(t, want))
	key = impl.Extract(nil, input)
	want = "8da4e775a563c18f715f802a063c5a31b8a11f5c5ee1879ec3454e5f3c738d2d9d201395faa4b61a96c8"
	checkList(t, "expand", impl.Expand(key, nil, 42), fromHex(t, want))
}

// macKeys are keys of every length that a test can afford, and some that are far longer.
func macKeys(r *rand.Rand, least int, most int) [][]byte {
	var keys [][]byte
	for n := least; n <= most; n++ {
		keys = append(keys, randomList(r, n), make([]byte, n), full(n))
	}
	return keys
}

func TestPromise11LongKeyIsItsHash(t *testing.T) {
	r := rand.New(rand.NewSource(74))
	keys := append(macKeys(r, 65, 500), randomList(r, 1000), randomList(r, 8160), randomList(r, 65537))
	for _, key := range keys {
		short, data := impl.Hash(key), randomList(r, r.Intn(150))
		checkList(t, "sum", impl.Mac(key, data), impl.Mac(short, data), key, data)
		checkList(t, "extract", impl.Extract(key, data), impl.Mac(short, data), key, data)
		n := r.Int63n(200)
		checkList(t, "expand", impl.Expand(key, data, n), impl.Expand(short, data, n), key, data)
		checkList(t, "expand label", impl.ExpandLabel(key, "some", data, n), impl.ExpandLabel(short, "some", data, n), key, data)
		checkList(t, "derive", impl.Derive(key, "some", data), impl.Derive(short, "some", data), key, data)
	}
}

func TestMacShortKeyHasZerosBehind(t *testing.T) {
	r := rand.New(rand.NewSource(75))
	for _, key := range macKeys(r, 0, 64) {
		data := randomList(r, r.Intn(150))
		want := impl.Mac(key, data)
		for zeros := range 64 - len(key) + 1 {
			longer := slices.Concat(key, make([]byte, zeros))
			checkList(t, "sum", impl.Mac(longer, data), want, key, data)
		}
	}
}

// Up to 64 bytes a key is not hashed, and none is cut: with one byte 0 more than 64 it is another.
func TestMacKeyLimit(t *testing.T) {
	r := rand.New(rand.NewSource(76))
	for _, key := range macKeys(r, 0, 64) {
		data := randomList(r, r.Intn(150))
		sum := impl.Mac(key, data)
		if bytes.Equal(sum, impl.Mac(impl.Hash(key), data)) {
			t.Errorf("the key %x does what its hash does", key)
		}
		if bytes.Equal(sum, impl.Mac(slices.Concat(filled(key), []byte{0}), data)) {
			t.Errorf("the key %x does what it does with zeros up to 65 bytes", key)
		}
	}
}

// pieceEdges are 0, and the lengths around the end of each piece up to the last one.
func pieceEdges() []int {
	edges := []int{0, 1}
	for n := impl.HashSize; n <= impl.MaxExpand; n += impl.HashSize {
		edges = append(edges, n-1, n)
		if n < impl.MaxExpand {
			edges = append(edges, n+1)
		}
	}
	return edges
}

func checkPrefix(t *testing.T, key []byte, info []byte, n int, long []byte) {
	t.Helper()
	got := impl.Expand(key, info, int64(n))
	if len(got) != n || !bytes.HasPrefix(long, got) {
		t.Errorf("key %x, info %x: %d bytes are not the beginning of %d: %x", key, info, n, len(long), got)
	}
}

// keysAndInfos are pairs of lists of many lengths, the empty ones too.
func keysAndInfos(r *rand.Rand) [][2][]byte {
	pairs := [][2][]byte{{nil, nil}, {{}, {}}}
	for _, n := range blockLengths() {
		for _, m := range blockLengths() {
			pairs = append(pairs, [2][]byte{randomList(r, n), randomList(r, m)})
		}
	}
	for range 40 {
		pairs = append(pairs, [2][]byte{randomList(r, r.Intn(400)), randomList(r, r.Intn(400))})
	}
	return pairs
}

func TestPromise11Beginnings(t *testing.T) {
	r := rand.New(rand.NewSource(77))
	edges := pieceEdges()
	for _, pair := range keysAndInfos(r) {
		key, info := pair[0], pair[1]
		long := impl.Expand(key, info, impl.MaxExpand)
		if len(long) != impl.MaxExpand {
			t.Errorf("key %x, info %x: %d bytes", key, info, len(long))
		}
		for _, n := range []int{0, 1, 31, 32, 33, 63, 64, 65, 8127, 8128, 8129, 8159, 8160} {
			checkPrefix(t, key, info, n, long)
		}
		for range 4 {
			checkPrefix(t, key, info, edges[r.Intn(len(edges))], long)
			n, m := r.Intn(impl.MaxExpand+1), r.Intn(impl.MaxExpand+1)
			checkPrefix(t, key, info, min(n, m), impl.Expand(key, info, int64(max(n, m))))
		}
	}
}

func TestPromise11BeginningsOfEveryPiece(t *testing.T) {
	r := rand.New(rand.NewSource(78))
	for _, pair := range [][2][]byte{{nil, nil}, {randomList(r, 32), randomList(r, 10)}, {randomList(r, 65), nil}} {
		long := impl.Expand(pair[0], pair[1], impl.MaxExpand)
		for _, n := range pieceEdges() {
			checkPrefix(t, pair[0], pair[1], n, long)
		}
		for n := range 300 {
			checkPrefix(t, pair[0], pair[1], n, long)
		}
	}
}

// Each n with each m above it, of lengths that end a piece or stand beside its end.
func TestPromise11BeginningsOfBeginnings(t *testing.T) {
	key, info := upwards(32), []byte("info")
	lengths := []int{0, 1, 31, 32, 33, 63, 64, 65, 95, 96, 97, 4095, 4096, 4097, 8127, 8128, 8129, 8159, 8160}
	for i, n := range lengths {
		for _, m := range lengths[i:] {
			checkPrefix(t, key, info, n, impl.Expand(key, info, int64(m)))
		}
	}
}

// The pieces by hand: each hangs on the one ahead, on the info and on its number, which is 255 at last.
func TestExpandPieces(t *testing.T) {
	r := rand.New(rand.NewSource(79))
	for _, pair := range keysAndInfos(r)[:60] {
		key, info := pair[0], pair[1]
		pieces := slices.Collect(slices.Chunk(impl.Expand(key, info, impl.MaxExpand), impl.HashSize))
		if len(pieces) != 255 {
			t.Fatalf("key %x, info %x: %d pieces", key, info, len(pieces))
		}
		checkList(t, "first piece", pieces[0], impl.Mac(key, slices.Concat(info, []byte{1})), key, info)
		for i := 1; i < len(pieces); i++ {
			want := impl.Mac(key, slices.Concat(pieces[i-1], info, []byte{byte(i + 1)}))
			checkList(t, "piece", pieces[i], want, key, info, []byte{byte(i)})
		}
		checkList(t, "last piece", pieces[254], impl.Mac(key, slices.Concat(pieces[253], info, []byte{255})), key, info)
	}
}

func TestExpandTold(t *testing.T) {
	k := toldKeysOf()
	r := rand.New(rand.NewSource(80))
	for _, pair := range keysAndInfos(r) {
		for _, n := range []int{0, 1, 31, 32, 33, 64, 65, 100 + r.Intn(200)} {
			want := toldExpand(k.mac, pair[0], pair[1], n)
			checkList(t, "expand", impl.Expand(pair[0], pair[1], int64(n)), want, pair[0], pair[1])
		}
		n := r.Intn(impl.MaxExpand + 1)
		want := libraryExpand(t, pair[0], pair[1], n)
		checkList(t, "expand", impl.Expand(pair[0], pair[1], int64(n)), want, pair[0], pair[1])
		want = libraryExpand(t, pair[0], pair[1], impl.MaxExpand)
		checkList(t, "expand", impl.Expand(pair[0], pair[1], impl.MaxExpand), want, pair[0], pair[1])
	}
	key, info := randomList(r, 70), randomList(r, 20)
	checkList(t, "expand", impl.Expand(key, info, impl.MaxExpand), toldExpand(k.mac, key, info, impl.MaxExpand), key, info)
}

func TestExpandLongInfo(t *testing.T) {
	r := rand.New(rand.NewSource(81))
	for _, n := range []int{1000, 8191, 8192, 65536, 1 << 18} {
		info := randomList(r, n)
		want := toldExpand(impl.Mac, []byte("key"), info, 100)
		checkList(t, "expand", impl.Expand([]byte("key"), info, 100), want)
	}
}
