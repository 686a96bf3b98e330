package tests

import (
	"bytes"
	"encoding/asn1"
	"math"
	"math/big"
	"math/rand"
	"slices"
	"testing"

	"loop.example/g00004/impl"
)

// What chapter 10 says of integers, and promise 15 of them.

// toldSigned is the number of a list in two's complement, of any length; of no bytes 0.
func toldSigned(body []byte) *big.Int {
	n := bigOf(body)
	if len(body) > 0 && body[0] >= 128 {
		n.Sub(n, powerOf2(uint(8*len(body))))
	}
	return n
}

// isShortest tells whether no list with fewer bytes, but at least one, is the same number.
func isShortest(body []byte) bool {
	return len(body) == 1 || len(body) > 1 && toldSigned(body[1:]).Cmp(toldSigned(body)) != 0
}

func toldInteger(body []byte) impl.NumberResult {
	n := toldSigned(body)
	if !isShortest(body) || !n.IsInt64() {
		return impl.NumberResult{}
	}
	return impl.NumberResult{Good: true, Value: n.Int64()}
}

// checkInteger holds v to its one form: it is v, it is the shortest, and it comes back.
func checkInteger(t *testing.T, v int64) {
	t.Helper()
	body := impl.EncodeInteger(v)
	if toldSigned(body).Cmp(big.NewInt(v)) != 0 || !isShortest(body) {
		t.Errorf("the integer %d: got %x", v, body)
	}
	if got := impl.DecodeInteger(body); got != (impl.NumberResult{Good: true, Value: v}) {
		t.Errorf("the integer %d: %x comes back as %v", v, body, got)
	}
}

// checkIntegerBody tells whether these bytes are an integer; if they are, they are its only form.
func checkIntegerBody(t *testing.T, body []byte) bool {
	t.Helper()
	got, want := impl.DecodeInteger(body), toldInteger(body)
	if got != want {
		t.Errorf("the bytes %x: got %v, want %v", beginning(body), got, want)
		return false
	}
	if got.Good {
		checkList(t, "encoded again", impl.EncodeInteger(got.Value), body)
	}
	return got.Good
}

func checkNoInteger(t *testing.T, body []byte) {
	t.Helper()
	if got := impl.DecodeInteger(body); got != (impl.NumberResult{}) {
		t.Errorf("%d bytes %x: got %v", len(body), beginning(body), got)
	}
}

// integerEdges lie at and around every power of 2, both ways of sign, with the least and the greatest.
func integerEdges() []int64 {
	edges := []int64{0, math.MaxInt64, math.MaxInt64 - 1, math.MinInt64, math.MinInt64 + 1}
	for shift := range 63 {
		for by := int64(-3); by <= 3; by++ {
			edges = append(edges, 1<<shift+by, -1<<shift-by)
		}
	}
	return edges
}

func TestIntegerExamples(t *testing.T) {
	for _, one := range []struct {
		v    int64
		want []byte
	}{
		{0, []byte{0}}, {1, []byte{1}}, {-1, []byte{255}}, {127, []byte{127}}, {128, []byte{0, 128}}, {-128, []byte{128}},
		{-129, []byte{255, 127}}, {255, []byte{0, 255}}, {256, []byte{1, 0}}, {-256, []byte{255, 0}}, {32767, []byte{127, 255}},
		{32768, []byte{0, 128, 0}}, {-32768, []byte{128, 0}}, {-32769, []byte{255, 127, 255}},
		{math.MaxInt64, []byte{127, 255, 255, 255, 255, 255, 255, 255}}, {math.MinInt64, []byte{128, 0, 0, 0, 0, 0, 0, 0}},
	} {
		checkList(t, "integer", impl.EncodeInteger(one.v), one.want)
		checkInteger(t, one.v)
	}
}

func TestPromise15Integers(t *testing.T) {
	for _, v := range integerEdges() {
		checkInteger(t, v)
	}
	for v := int64(-70000); v <= 70000; v++ {
		checkInteger(t, v)
	}
	r := rand.New(rand.NewSource(170))
	for range 20000 {
		v := int64(r.Uint64()) >> r.Intn(64)
		checkInteger(t, v)
		checkInteger(t, -v)
	}
}

// Every number of bytes has just the integers that need them.
func TestIntegerSizes(t *testing.T) {
	for size := 1; size < 8; size++ {
		greatest := int64(1)<<(8*size-1) - 1
		for _, one := range []struct {
			v    int64
			size int
		}{{greatest, size}, {greatest + 1, size + 1}, {-greatest - 1, size}, {-greatest - 2, size + 1}} {
			if got := len(impl.EncodeInteger(one.v)); got != one.size {
				t.Errorf("the integer %d has %d bytes, want %d", one.v, got, one.size)
			}
		}
	}
}

func TestPromise15IntegerBytes(t *testing.T) {
	good := 0
	count := func(body []byte) {
		if checkIntegerBody(t, body) {
			good++
		}
	}
	for first := range 256 {
		count([]byte{byte(first)})
		for second := range 256 {
			count([]byte{byte(first), byte(second)})
		}
	}
	if good != 256+65536-256 {
		t.Errorf("%d lists of one or two bytes are integers", good)
	}
	for n := range 7 {
		for _, body := range allListsOf(n, 0, 1, 127, 128, 255) {
			count(body)
		}
	}
	r := rand.New(rand.NewSource(171))
	for range 20000 {
		count(randomList(r, r.Intn(12)))
	}
}

func TestIntegerNoBytes(t *testing.T) {
	for _, body := range [][]byte{nil, {}, upwards(3)[:0]} {
		checkNoInteger(t, body)
	}
}

// A byte more than is needed ahead: 0, or 255 if the sign is on.
func TestIntegerByteMore(t *testing.T) {
	for _, v := range integerEdges() {
		body := impl.EncodeInteger(v)
		more := byte(0)
		if v < 0 {
			more = 255
		}
		for n := 1; n < 12; n++ {
			checkNoInteger(t, append(bytes.Repeat([]byte{more}, n), body...))
		}
	}
	for low := range 256 {
		if low < 128 {
			checkNoInteger(t, []byte{0, byte(low)})
			checkIntegerBody(t, []byte{255, byte(low)})
		} else {
			checkNoInteger(t, []byte{255, byte(low)})
			checkIntegerBody(t, []byte{0, byte(low)})
		}
	}
}

func TestIntegerEightBytes(t *testing.T) {
	r := rand.New(rand.NewSource(172))
	for first := range 256 {
		for _, second := range []byte{0, 1, 127, 128, 254, 255} {
			for _, behind := range [][]byte{make([]byte, 6), full(6), randomList(r, 6)} {
				body := slices.Concat([]byte{byte(first), second}, behind)
				good := checkIntegerBody(t, body)
				if want := !(first == 0 && second < 128 || first == 255 && second >= 128); good != want {
					t.Errorf("the bytes %x: got %v", body, good)
				}
			}
		}
	}
}

// Nine bytes and more are no integer, whatever their number would be if some were left out.
func TestIntegerTooManyBytes(t *testing.T) {
	r := rand.New(rand.NewSource(173))
	for _, n := range []int{9, 10, 11, 12, 15, 16, 17, 24, 64, 255, 256, 257, 264, 65535, 65536, 65544} {
		for _, body := range [][]byte{make([]byte, n), full(n), bytes.Repeat([]byte{1}, n), bytes.Repeat([]byte{128}, n), randomList(r, n)} {
			checkNoInteger(t, body)
		}
		for _, v := range []int64{0, 1, -1, 128, -129, math.MaxInt64, math.MinInt64} {
			body := impl.EncodeInteger(v)
			checkNoInteger(t, append(make([]byte, n-len(body)), body...))
			checkNoInteger(t, append(full(n-len(body)), body...))
			checkNoInteger(t, append(bytes.Clone(body), make([]byte, n-len(body))...))
		}
	}
	// One more than the greatest, and one less than the least.
	checkNoInteger(t, []byte{0, 128, 0, 0, 0, 0, 0, 0, 0})
	checkNoInteger(t, []byte{255, 127, 255, 255, 255, 255, 255, 255, 255})
}

func TestIntegerLibrary(t *testing.T) {
	r := rand.New(rand.NewSource(174))
	values := integerEdges()
	for range 2000 {
		values = append(values, int64(r.Uint64())>>r.Intn(64))
	}
	for _, v := range values {
		form, err := asn1.Marshal(v)
		if err != nil {
			t.Fatal(err)
		}
		checkList(t, "integer as an item", impl.EncodeItem(impl.TagInt, impl.EncodeInteger(v)), form)
	}
}

func ofDecodeInteger(args [][]byte) [][]byte {
	got := impl.DecodeInteger(args[0])
	if !got.Good {
		return nil
	}
	return [][]byte{impl.EncodeInteger(got.Value), impl.EncodeInteger(got.Value)}
}

func TestIntegerMemory(t *testing.T) {
	r := rand.New(rand.NewSource(175))
	for range 300 {
		checkMemory(t, "integer", ofDecodeInteger, randomList(r, r.Intn(11)))
	}
	for _, v := range integerEdges() {
		checkMemory(t, "integer", ofDecodeInteger, impl.EncodeInteger(v))
	}
}
