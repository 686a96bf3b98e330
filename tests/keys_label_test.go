package tests

import (
	"bytes"
	"math"
	"math/big"
	"math/rand"
	"slices"
	"strings"
	"testing"

	"loop.example/g00004/impl"
)

// What chapter 7 says of ExpandLabel and Derive, of the limits, and of memory.

// toldInfo makes every number of its bytes by FillBytes, which does not take one that is too great for them.
func toldInfo(label string, context []byte, n int64) []byte {
	number := func(value int64, size int) []byte {
		return big.NewInt(value).FillBytes(make([]byte, size))
	}
	named := append([]byte("chan "), label...)
	info := append(number(n, 2), number(int64(len(named)), 1)...)
	info = append(info, named...)
	info = append(info, number(int64(len(context)), 1)...)
	return append(info, context...)
}

func checkLabel(t *testing.T, secret []byte, label string, context []byte, n int64) {
	t.Helper()
	info := toldInfo(label, context, n)
	want := impl.Expand(secret, info, n)
	if int64(len(want)) != n {
		t.Errorf("expand to %d bytes: got %d", n, len(want))
	}
	checkList(t, "expand label", impl.ExpandLabel(secret, label, context, n), want, secret, []byte(label), context)
	checkList(t, "library", libraryExpand(t, secret, info, int(n)), want, secret, []byte(label), context)
}

func checkDerive(t *testing.T, secret []byte, label string, transcript []byte) {
	t.Helper()
	want := impl.Expand(secret, toldInfo(label, transcript, 32), 32)
	if len(want) != 32 {
		t.Errorf("derive: %d bytes", len(want))
	}
	checkList(t, "derive", impl.Derive(secret, label, transcript), want, secret, []byte(label), transcript)
	checkList(t, "expand label", impl.ExpandLabel(secret, label, transcript, 32), want, secret, []byte(label), transcript)
}

func checkLabelRefused(t *testing.T, secret []byte, label string, context []byte, n int64) {
	t.Helper()
	if got := impl.ExpandLabel(secret, label, context, n); len(got) != 0 {
		t.Errorf("a label of %d bytes, a context of %d, n = %d: got %x", len(label), len(context), n, got)
	}
}

// goodLabels are of the lengths at the limits, letters and other bytes, texts that are no runes among them.
func goodLabels(r *rand.Rand) []string {
	labels := []string{
		"", "a", "key", "iv", "early", "chan ", "chan chan ", " ", "\x00", "\xff", "\n\t\r", "ä", "\xc3", "日本", "\U0010ffff",
		strings.Repeat("a", impl.MaxLabel-1), strings.Repeat("a", impl.MaxLabel), strings.Repeat("\x00", impl.MaxLabel),
		strings.Repeat("\xff", impl.MaxLabel), strings.Repeat("ä", impl.MaxLabel/2), strings.Repeat("日", impl.MaxLabel/3),
	}
	for _, n := range []int{1, 2, 50, 122, 123, 199, 200} {
		labels = append(labels, string(randomList(r, n)))
	}
	return labels
}

// longLabels have more than MaxLabel bytes; of some, the runes would be fewer.
func longLabels(r *rand.Rand) []string {
	return []string{
		strings.Repeat("a", impl.MaxLabel+1), strings.Repeat("\x00", impl.MaxLabel+1), strings.Repeat("ä", impl.MaxLabel/2) + "a",
		strings.Repeat("日", 67), string(randomList(r, impl.MaxLabel+1)), string(randomList(r, 250)), string(randomList(r, 251)),
		string(randomList(r, 255)), string(randomList(r, 256)), string(randomList(r, 456)), string(randomList(r, 100000)),
	}
}

func labelContexts(r *rand.Rand) [][]byte {
	contexts := [][]byte{nil, {}, {0}, {255}, upwards(255), make([]byte, 255), full(255)}
	for _, n := range []int{1, 2, 31, 32, 33, 64, 127, 128, 254, 255} {
		contexts = append(contexts, randomList(r, n))
	}
	return contexts
}

// longContexts have more than 255 bytes, so that one byte could not tell their length.
func longContexts(r *rand.Rand) [][]byte {
	return [][]byte{make([]byte, 256), full(256), randomList(r, 256), randomList(r, 257), randomList(r, 511), randomList(r, 512), randomList(r, 65536)}
}

func outsideLengths() []int64 {
	lengths := []int64{
		-1, -2, -32, -8160, impl.MaxExpand + 1, impl.MaxExpand + 2, impl.MaxExpand + 32, 8192, 65535, 65536, 65537,
		math.MinInt64, math.MinInt64 + 1, math.MaxInt64 - 1, math.MaxInt64, math.MinInt32, math.MaxInt32, math.MaxUint32,
	}
	// Cut to fewer bits these would be lengths that may be asked for.
	for shift := 13; shift < 63; shift++ {
		for _, n := range []int64{0, 1, 32, impl.MaxExpand} {
			lengths = append(lengths, n+1<<shift, n-1<<shift)
		}
	}
	return lengths
}

func TestLabelsAndContexts(t *testing.T) {
	r := rand.New(rand.NewSource(82))
	for _, label := range goodLabels(r) {
		for _, context := range labelContexts(r) {
			secret := randomList(r, r.Intn(100))
			for _, n := range []int64{0, 1, 32, 255, 256} {
				checkLabel(t, secret, label, context, n)
			}
			checkDerive(t, secret, label, context)
		}
	}
}

func TestLabelsOfEveryLength(t *testing.T) {
	r := rand.New(rand.NewSource(83))
	for n := range impl.MaxLabel + 1 {
		label := string(randomList(r, n))
		checkLabel(t, randomList(r, 32), label, randomList(r, r.Intn(256)), r.Int63n(200))
		checkDerive(t, randomList(r, 32), label, randomList(r, 32))
	}
	for n := range 256 {
		context := randomList(r, n)
		checkLabel(t, randomList(r, 32), string(randomList(r, r.Intn(201))), context, r.Int63n(200))
		checkDerive(t, randomList(r, r.Intn(100)), "some", context)
	}
}

func TestLabelsOfEverySize(t *testing.T) {
	r := rand.New(rand.NewSource(84))
	sizes := []int64{0, 1, 31, 32, 33, 254, 255, 256, 257, 511, 512, 513, 4095, 4096, 7935, 7936, 8159, 8160}
	for _, n := range sizes {
		for _, secret := range [][]byte{nil, randomList(r, 32), randomList(r, 64), randomList(r, 65), randomList(r, 300)} {
			checkLabel(t, secret, "", nil, n)
			checkLabel(t, secret, "key", randomList(r, 32), n)
			checkLabel(t, secret, string(randomList(r, 200)), randomList(r, 255), n)
		}
	}
}

// As n is a part of the info, the keys of one label share no beginning, unlike those of Expand.
func TestLabelsHangOnTheSize(t *testing.T) {
	secret := upwards(32)
	for _, n := range []int64{32, 64, 255, 4096} {
		for _, m := range []int64{33, 256, 288, 8160} {
			if bytes.Equal(impl.ExpandLabel(secret, "key", nil, n)[:32], impl.ExpandLabel(secret, "key", nil, m)[:32]) {
				t.Errorf("the keys of %d and %d bytes begin alike", n, m)
			}
		}
	}
}

// The lengths tell where the label ends: bytes that go over from it to the context make another key.
func TestLabelsAreToldFromContexts(t *testing.T) {
	whole := "some label and its context"
	var seen [][]byte
	for n := range len(whole) + 1 {
		made := impl.Derive(upwards(32), whole[:n], []byte(whole[n:]))
		if slices.ContainsFunc(seen, func(one []byte) bool { return bytes.Equal(one, made) }) {
			t.Errorf("the label of %d bytes makes the key of a shorter one", n)
		}
		seen = append(seen, made)
	}
}

func TestLabelsTooLong(t *testing.T) {
	r := rand.New(rand.NewSource(85))
	for _, label := range longLabels(r) {
		for _, context := range slices.Concat(labelContexts(r), longContexts(r)) {
			for _, n := range []int64{0, 1, 32, 8160, -1, 8161} {
				checkLabelRefused(t, upwards(32), label, context, n)
			}
			if got := impl.Derive(upwards(32), label, context); len(got) != 0 {
				t.Errorf("derive with a label of %d bytes: got %x", len(label), got)
			}
		}
	}
}

func TestContextsTooLong(t *testing.T) {
	r := rand.New(rand.NewSource(86))
	for _, context := range longContexts(r) {
		for _, label := range slices.Concat(goodLabels(r), longLabels(r)) {
			for _, n := range []int64{0, 1, 32, 8160, -1, 8161} {
				checkLabelRefused(t, upwards(32), label, context, n)
			}
			if got := impl.Derive(upwards(32), label, context); len(got) != 0 {
				t.Errorf("derive with a transcript of %d bytes: got %x", len(context), got)
			}
		}
	}
}

func TestSizesOutside(t *testing.T) {
	r := rand.New(rand.NewSource(87))
	lengths := outsideLengths()
	for range 300 {
		n := r.Int63()
		lengths = append(lengths, -1-n, max(n, impl.MaxExpand+1))
	}
	for n := range int64(300) {
		lengths = append(lengths, -1-n, impl.MaxExpand+1+n)
	}
	for _, n := range lengths {
		for _, key := range [][]byte{nil, upwards(32), upwards(65)} {
			if got := impl.Expand(key, upwards(10), n); len(got) != 0 {
				t.Errorf("expand to %d bytes: got %d", n, len(got))
			}
			checkLabelRefused(t, key, "", nil, n)
			checkLabelRefused(t, key, "key", upwards(32), n)
		}
	}
}

func ofLabel(label string, n int64) func(args [][]byte) [][]byte {
	return ofTwoLists(func(a []byte, b []byte) []byte { return impl.ExpandLabel(a, label, b, n) })
}

func TestKeysMemory(t *testing.T) {
	r := rand.New(rand.NewSource(88))
	for range 300 {
		key, data := randomList(r, r.Intn(200)), randomList(r, r.Intn(260))
		label, n := string(randomList(r, r.Intn(202))), r.Int63n(300)-1
		checkMemory(t, "sum", ofTwoLists(impl.Mac), key, data)
		checkMemory(t, "extract", ofTwoLists(impl.Extract), key, data)
		checkMemory(t, "expand", ofTwoLists(func(a []byte, b []byte) []byte { return impl.Expand(a, b, n) }), key, data)
		checkMemory(t, "expand label", ofLabel(label, n), key, data)
		checkMemory(t, "derive", ofTwoLists(func(a []byte, b []byte) []byte { return impl.Derive(a, label, b) }), key, data)
	}
}

// Key and data may be one list, and lie in one room: what is made of the one is not to be seen in the other.
func TestKeysOfOneRoom(t *testing.T) {
	r := rand.New(rand.NewSource(89))
	for n := range 140 {
		room := randomList(r, 2*n)
		first, second := room[:n], room[n:]
		want := libraryMac(bytes.Clone(first), bytes.Clone(second))
		checkList(t, "sum", impl.Mac(first, second), want, first, second)
		checkList(t, "sum", impl.Mac(room, room), libraryMac(room, room), room)
		checkList(t, "expand", impl.Expand(room, room, 70), libraryExpand(t, room, room, 70), room)
		checkMemory(t, "all", allOfOneRoom(int64(n)), room)
	}
}

// allOfOneRoom answers what all functions make of one list, so that no two of the answers may share memory.
func allOfOneRoom(n int64) func(args [][]byte) [][]byte {
	return func(args [][]byte) [][]byte {
		key, data := args[0][:n], args[0][n:]
		return [][]byte{
			impl.Mac(key, data), impl.Mac(key, data), impl.Extract(data, key), impl.Expand(key, data, n), impl.Expand(key, data, n),
			impl.ExpandLabel(key, "key", data, n), impl.ExpandLabel(key, "key", data, n), impl.Derive(key, "key", data),
		}
	}
}
