package tests

import (
	"bytes"
	"math/rand"
	"slices"
	"testing"

	"loop.example/g00004/impl"
)

// What chapter 15 says of opening: every code, alone and together with those behind it.

// inside is what a body is sealed of, with what it tells.
type inside struct {
	what  string
	bytes []byte
	code  int64
}

func insidesAllZero() []inside {
	var all []inside
	for _, n := range []int{1, 2, 16, 17, 300, 2048, 2049, 2050, 2304, 2305} {
		all = append(all, inside{"all 0", make([]byte, n), 3})
	}
	return all
}

// insidesOfNoKind end with each byte that is no kind, with data that may be, with too many, and with none.
func insidesOfNoKind() []inside {
	var all []inside
	for b := 1; b < 256; b++ {
		if b >= 21 && b <= 23 {
			continue
		}
		all = append(all,
			inside{"no kind and no data", insideOf(nil, byte(b), b%4), 4},
			inside{"no kind", insideOf([]byte("some data"), byte(b), b%7), 4},
			inside{"no kind behind a kind", insideOf([]byte{1, 22, 0}, byte(b), b%3), 4})
	}
	for _, b := range []byte{1, 19, 20, 24, 25, 87, 255} {
		all = append(all,
			inside{"no kind and the most data", insideOf(upwards(2048), b, 256), 4},
			inside{"no kind and more data", insideOf(upwards(2049), b, 0), 4},
			inside{"no kind and the most that fits", insideOf(upwards(2304), b, 0), 4})
	}
	return all
}

// insidesOfKinds have none, few, the most and too many data of each kind.
func insidesOfKinds(r *rand.Rand) []inside {
	var all []inside
	for _, kind := range recordKinds() {
		ofNone := int64(6)
		if kind == 23 {
			ofNone = 0
		}
		for _, pad := range []int{0, 1, 255, 256, 257, 1000, 2303, 2304} {
			all = append(all, inside{"no data", insideOf(nil, byte(kind), pad), ofNone})
		}
		for _, n := range []int{1, 2, 2047, 2048} {
			for _, pad := range []int{0, 1, 256, 2304 - n} {
				all = append(all,
					inside{"data", insideOf(randomList(r, n), byte(kind), pad), 0},
					inside{"data that are all 0", insideOf(make([]byte, n), byte(kind), pad), 0},
					inside{"data that end as a kind", insideOf(append(make([]byte, n-1), 21), byte(kind), pad), 0})
			}
		}
		for _, n := range []int{2049, 2050, 2100, 2303, 2304} {
			for _, pad := range []int{0, (2304 - n) / 2, 2304 - n} {
				all = append(all,
					inside{"more data", insideOf(randomList(r, n), byte(kind), pad), 5},
					inside{"more data that are all 0", insideOf(make([]byte, n), byte(kind), pad), 5})
			}
		}
	}
	return all
}

func insides(r *rand.Rand) []inside {
	return slices.Concat(insidesAllZero(), insidesOfNoKind(), insidesOfKinds(r))
}

// fewInsides are one of each code, and some more.
func fewInsides() []inside {
	return []inside{
		{"all 0", make([]byte, 5), 3}, {"all 0", make([]byte, 2305), 3},
		{"no kind", insideOf([]byte{1}, 24, 1), 4}, {"no kind and no data", []byte{20}, 4}, {"no kind and more data", insideOf(upwards(2049), 255, 3), 4},
		{"more data", insideOf(upwards(2049), 22, 0), 5}, {"more data", insideOf(upwards(2304), 23, 0), 5},
		{"no data", []byte{21}, 6}, {"no data", []byte{22, 0, 0}, 6},
		{"data", insideOf([]byte("data"), 22, 3), 0}, {"none of data", []byte{23}, 0},
	}
}

func (i inside) opened() impl.Opened {
	told := toldOpened(i.bytes)
	told.Code = i.code
	return told
}

func TestUnprotectInsides(t *testing.T) {
	r := rand.New(rand.NewSource(320))
	keys, numbers := someKeys(r), recordNumbers()
	seen := map[int64]int{}
	for _, one := range insides(r) {
		if told := toldOpened(one.bytes); told.Code != one.code {
			t.Fatalf("%s: %d bytes are told as %d, not %d", one.what, len(one.bytes), told.Code, one.code)
		}
		k, number := keys[r.Intn(len(keys))], numbers[r.Intn(len(numbers))]
		checkOpenedRecord(t, one.what, k, number, sealedInside(k, number, one.bytes), one.opened())
		seen[one.code]++
	}
	for _, code := range []int64{0, 3, 4, 5, 6} {
		if seen[code] < 10 {
			t.Errorf("the code %d came %d times", code, seen[code])
		}
	}
}

// By the told seal and stream alone.
func TestUnprotectTold(t *testing.T) {
	r := rand.New(rand.NewSource(321))
	for range 100 {
		k, number := randomKeys(r), edgeOr(r, recordNumbers(), impl.MaxSequence)
		content := randomList(r, 1+r.Intn(80))
		copy(content[r.Intn(len(content)):], make([]byte, 80))
		if r.Intn(3) > 0 {
			content[r.Intn(len(content))] = byte(20 + r.Intn(5))
		}
		body := toldSealedInside(k, number, content)
		checkOpenedRecord(t, "told", k, number, body, toldUnprotect(k, number, body))
		body = withBit(body, r.Intn(8*len(body)))
		checkOpenedRecord(t, "told with a bit", k, number, body, toldUnprotect(k, number, body))
	}
	for _, one := range fewInsides() {
		k, number := randomKeys(r), edgeOr(r, recordNumbers(), impl.MaxSequence)
		body := toldSealedInside(k, number, one.bytes)
		checkOpenedRecord(t, one.what, k, number, body, toldUnprotect(k, number, body))
		checkOpenedRecord(t, one.what, k, number, body, one.opened())
	}
}

// Code 1 by the number, of bodies that would have every other code with it.
func TestUnprotectNumbersOutside(t *testing.T) {
	r := rand.New(rand.NewSource(322))
	for _, keys := range someKeys(r) {
		for _, number := range outsideNumbers() {
			for _, one := range fewInsides() {
				body := sealedInside(keys, number, one.bytes)
				checkOpenedRecord(t, "number outside, "+one.what, keys, number, body, impl.Opened{Code: 1})
				checkOpenedRecord(t, "number outside, not opened", keys, number, withBit(body, 3), impl.Opened{Code: 1})
				// A number is not taken for the one that it is without its highest bits.
				cut := int64(uint32(number))
				checkOpenedRecord(t, "number cut, "+one.what, keys, number, sealedInside(keys, cut, one.bytes), impl.Opened{Code: 1})
			}
			for _, n := range []int{0, 16, 17, 2321, 2322} {
				checkOpenedRecord(t, "number outside", keys, number, make([]byte, n), impl.Opened{Code: 1})
			}
		}
	}
}

// otherSizedKeys are such of which a part, or with zeros behind, would be k.
func otherSizedKeys(k impl.Keys) []impl.Keys {
	var all []impl.Keys
	for _, key := range [][]byte{nil, k.Key[:1], k.Key[:12], k.Key[:31], append(bytes.Clone(k.Key), 0), append(bytes.Clone(k.Key), k.Key...)} {
		all = append(all, impl.Keys{Key: key, Iv: k.Iv})
	}
	for _, iv := range [][]byte{nil, k.Iv[:1], k.Iv[:8], k.Iv[:11], append(bytes.Clone(k.Iv), 0), append([]byte{0}, k.Iv...), append(bytes.Clone(k.Iv), k.Key...)} {
		all = append(all, impl.Keys{Key: k.Key, Iv: iv})
	}
	return append(all, impl.Keys{}, impl.Keys{Key: k.Iv, Iv: k.Key})
}

// Code 1 by the keys, of bodies that would open to every other code.
func TestUnprotectKeysOfOtherSizes(t *testing.T) {
	r := rand.New(rand.NewSource(323))
	keys := []impl.Keys{randomKeys(r), {Key: append(randomList(r, 31), 0), Iv: append(randomList(r, 11), 0)}, {Key: make([]byte, 32), Iv: make([]byte, 12)}}
	for _, k := range keys {
		for _, other := range otherSizedKeys(k) {
			for _, one := range fewInsides() {
				body := sealedInside(k, 7, one.bytes)
				checkOpenedRecord(t, "other keys, "+one.what, other, 7, body, impl.Opened{Code: 1})
				checkOpenedRecord(t, "other keys and number", other, -1, body, impl.Opened{Code: 1})
			}
			for _, n := range []int{0, 16, 17, 2321, 2322} {
				checkOpenedRecord(t, "other keys", other, 7, make([]byte, n), impl.Opened{Code: 1})
			}
		}
	}
}

// Code 1 by the size of the body: a seal of nothing, and such of more than a record has.
func TestUnprotectSizes(t *testing.T) {
	r := rand.New(rand.NewSource(324))
	for _, keys := range someKeys(r) {
		checkOpenedRecord(t, "a seal of nothing", keys, 3, sealedInside(keys, 3, nil), impl.Opened{Code: 1})
		for _, n := range []int{2306, 2307, 2560, 5000} {
			for _, content := range [][]byte{make([]byte, n), insideOf(nil, 23, n-1), insideOf([]byte{1}, 22, n-2), insideOf(upwards(n-1), 23, 0), insideOf(nil, 21, n-1), full(n)} {
				checkOpenedRecord(t, "a long seal", keys, 3, sealedInside(keys, 3, content), impl.Opened{Code: 1})
			}
		}
		for n := range 40 {
			want := impl.Opened{Code: 1}
			if n >= 17 {
				want.Code = 2
			}
			checkOpenedRecord(t, "a short body", keys, 3, randomList(r, n), want)
		}
		for _, n := range []int{17, 18, 2320, 2321} {
			checkOpenedRecord(t, "a body of a right size", keys, 3, make([]byte, n), impl.Opened{Code: 2})
			checkOpenedRecord(t, "a body of a right size", keys, 3, full(n), impl.Opened{Code: 2})
		}
		for _, n := range []int{2322, 2323, 4096, 65536, 65536 + 17, 65536 + 2321} {
			checkOpenedRecord(t, "a body that is too long", keys, 3, make([]byte, n), impl.Opened{Code: 1})
		}
	}
}

// The least and the greatest that open.
func TestUnprotectEnds(t *testing.T) {
	r := rand.New(rand.NewSource(325))
	for _, keys := range someKeys(r) {
		for _, number := range []int64{0, impl.MaxSequence} {
			least := sealedInside(keys, number, []byte{23})
			greatest := sealedInside(keys, number, insideOf(upwards(2048), 22, 256))
			if len(least) != 17 || len(greatest) != impl.MaxSealed {
				t.Fatalf("bodies of %d and %d bytes", len(least), len(greatest))
			}
			checkOpenedRecord(t, "the least", keys, number, least, impl.Opened{Kind: 23})
			checkOpenedRecord(t, "the greatest", keys, number, greatest, impl.Opened{Kind: 22, Data: upwards(2048)})
		}
	}
}

// Code 2 of bodies whose inside would have every other code: another bit, another head, and nothing of a head.
func TestUnprotectNotOpened(t *testing.T) {
	r := rand.New(rand.NewSource(326))
	for _, one := range append(fewInsides(), insides(r)[:40]...) {
		keys, number := randomKeys(r), edgeOr(r, recordNumbers(), impl.MaxSequence)
		body, size := sealedInside(keys, number, one.bytes), len(one.bytes)+16
		for range 8 {
			checkOpenedRecord(t, "a bit, "+one.what, keys, number, withBit(body, r.Intn(8*len(body))), impl.Opened{Code: 2})
		}
		checkOpenedRecord(t, "the last bit", keys, number, withBit(body, 8*len(body)-1), impl.Opened{Code: 2})
		right := toldHead(23, size)
		for _, head := range [][]byte{nil, toldHead(21, size), toldHead(22, size), toldHead(23, size-16), toldHead(23, size+3), right[:2], right[1:], append(right, 0)} {
			other := impl.Seal(keys.Key, toldNonce(keys.Iv, number), head, one.bytes)
			checkOpenedRecord(t, "another head, "+one.what, keys, number, other, impl.Opened{Code: 2})
		}
		if len(body) > 17 {
			checkOpenedRecord(t, "a byte less", keys, number, body[:len(body)-1], impl.Opened{Code: 2})
			checkOpenedRecord(t, "without the first byte", keys, number, body[1:], impl.Opened{Code: 2})
		}
		if len(body) < impl.MaxSealed {
			checkOpenedRecord(t, "a byte more", keys, number, append(bytes.Clone(body), 0), impl.Opened{Code: 2})
		}
	}
}

func TestUnprotectEachBit(t *testing.T) {
	r := rand.New(rand.NewSource(327))
	for _, content := range [][]byte{{23}, insideOf([]byte("some data"), 22, 5), insideOf(randomList(r, 100), 21, 0)} {
		keys := randomKeys(r)
		body := sealedInside(keys, 12, content)
		for bit := range 8 * len(body) {
			checkOpenedRecord(t, "a bit", keys, 12, withBit(body, bit), impl.Opened{Code: 2})
		}
	}
}

// Opening asks nothing of how much padding there is, so a record may have more than Protect makes.
func TestUnprotectMorePadding(t *testing.T) {
	r := rand.New(rand.NewSource(328))
	keys := randomKeys(r)
	for _, n := range []int{0, 1, 5, 1000} {
		data := randomList(r, n)
		for _, pad := range []int{257, 300, 2304 - n} {
			body := sealedInside(keys, 1, insideOf(data, 23, pad))
			checkOpenedRecord(t, "more padding", keys, 1, body, impl.Opened{Kind: 23, Data: data})
		}
	}
}

// What a whole record or its head is opened as: a body alone has none of it.
func TestUnprotectOfAWholeRecord(t *testing.T) {
	r := rand.New(rand.NewSource(329))
	for range 50 {
		p := randomProtection(r)
		record := p.record()
		want := impl.Opened{Code: 2}
		if len(record) > impl.MaxSealed {
			want.Code = 1
		}
		checkOpenedRecord(t, "a whole record", p.keys, p.number, record, want)
	}
}
