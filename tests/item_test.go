package tests

import (
	"bytes"
	"encoding/asn1"
	"math"
	"math/rand"
	"slices"
	"testing"

	"loop.example/g00004/impl"
)

// What chapter 10 says of one item, and promise 15 of items.

func toldLengthForm(n int) []byte {
	if n <= 127 {
		return []byte{byte(n)}
	}
	if n <= 255 {
		return []byte{129, byte(n)}
	}
	return []byte{130, byte(n / 256), byte(n % 256)}
}

func toldItem(tag int64, body []byte) []byte {
	return slices.Concat([]byte{byte(tag)}, toldLengthForm(len(body)), body)
}

// toldItemAt does not read a length: of all lengths it looks for the one whose form stands there.
func toldItemAt(b []byte, at int64) impl.ItemResult {
	if at < 0 || at >= int64(len(b)) || b[at] == 0 {
		return impl.ItemResult{}
	}
	rest := b[at+1:]
	for n := range min(len(rest), impl.MaxItem+1) {
		form := toldLengthForm(n)
		if bytes.HasPrefix(rest, form) && len(form)+n <= len(rest) {
			end := len(form) + n
			return impl.ItemResult{Good: true, Tag: int64(b[at]), Body: rest[len(form):end], Next: at + 1 + int64(end)}
		}
	}
	return impl.ItemResult{}
}

func sameItemResult(a impl.ItemResult, b impl.ItemResult) bool {
	return a.Good == b.Good && a.Tag == b.Tag && a.Next == b.Next && bytes.Equal(a.Body, b.Body)
}

// beginning is as much of a list as a message may show.
func beginning(b []byte) []byte {
	return b[:min(len(b), 40)]
}

// checkItemAt also holds what was decoded, encoded again, to the bytes from its place to Next. It tells whether there
// is an item.
func checkItemAt(t *testing.T, b []byte, at int64, want impl.ItemResult) bool {
	t.Helper()
	got := impl.DecodeItem(b, at)
	if !sameItemResult(got, want) {
		t.Errorf("item at %d of %d bytes %x: got %v, %d, %d bytes, %d, want %v, %d, %d bytes, %d", at, len(b), beginning(b),
			got.Good, got.Tag, len(got.Body), got.Next, want.Good, want.Tag, len(want.Body), want.Next)
		return false
	}
	if got.Good && !bytes.Equal(impl.EncodeItem(got.Tag, got.Body), b[at:got.Next]) {
		t.Errorf("item at %d of %d bytes %x, encoded again, has other bytes", at, len(b), beginning(b))
	}
	return got.Good
}

func checkNoItem(t *testing.T, b []byte, at int64) {
	t.Helper()
	checkItemAt(t, b, at, impl.ItemResult{})
}

// checkEveryPlace tells at how many places of the list there are items.
func checkEveryPlace(t *testing.T, b []byte) int {
	t.Helper()
	found := 0
	for at := range int64(len(b)) {
		if checkItemAt(t, b, at, toldItemAt(b, at)) {
			found++
		}
	}
	return found
}

// bodySizes are those at which the form of a length changes, and those beside them.
func bodySizes() []int {
	return []int{0, 1, 2, 126, 127, 128, 129, 130, 254, 255, 256, 257, 511, 512, 4096, 65279, 65280, 65534, 65535}
}

func itemTags() []int64 {
	return []int64{1, impl.TagInt, impl.TagBytes, impl.TagText, impl.TagTime, impl.TagList, 127, 128, 129, 130, 254, 255}
}

// outsidePlaces are no places of a list of n bytes. Cut to fewer bits some of them would be.
func outsidePlaces(n int) []int64 {
	end := int64(n)
	return []int64{-1, -2, -end, -end - 1, end, end + 1, end + 2, 2*end + 1, math.MaxInt32, math.MinInt32, 1 << 32, 1<<32 + end/2,
		-1 << 32, 1 << 48, 1 << 62, math.MaxInt64, math.MaxInt64 - 1, math.MaxInt64 - end, math.MinInt64, math.MinInt64 + 1,
		math.MinInt64 + end/2}
}

// allListsOf answers all lists of n bytes out of a few.
func allListsOf(n int, bytes ...byte) [][]byte {
	lists := [][]byte{nil}
	for range n {
		var longer [][]byte
		for _, list := range lists {
			for _, b := range bytes {
				longer = append(longer, append(slices.Clone(list), b))
			}
		}
		lists = longer
	}
	return lists
}

func TestItemConstants(t *testing.T) {
	got := []int64{impl.MaxItem, impl.TagBool, impl.TagInt, impl.TagBytes, impl.TagText, impl.TagTime, impl.TagList, impl.MaxTime}
	if want := []int64{65535, 1, 2, 4, 12, 24, 48, 253402300799}; !slices.Equal(got, want) {
		t.Errorf("got %d, want %d", got, want)
	}
}

func TestItemExamples(t *testing.T) {
	checkList(t, "item", impl.EncodeItem(2, []byte{1, 0}), []byte{2, 2, 1, 0})
	b := []byte{9, 2, 1, 7, 2, 2, 1, 0, 5}
	checkItemAt(t, b, 0, impl.ItemResult{Good: true, Tag: 9, Body: []byte{1, 7}, Next: 4})
	checkItemAt(t, b, 4, impl.ItemResult{Good: true, Tag: 2, Body: []byte{1, 0}, Next: 8})
	checkNoItem(t, b, 8)
}

func TestEncodeItem(t *testing.T) {
	r := rand.New(rand.NewSource(150))
	for _, n := range bodySizes() {
		for _, tag := range itemTags() {
			body := randomList(r, n)
			if !bytes.Equal(impl.EncodeItem(tag, body), toldItem(tag, body)) {
				t.Errorf("item of the tag %d and %d bytes: got another form", tag, n)
			}
		}
	}
	for tag := range int64(255) {
		checkList(t, "item without a body", impl.EncodeItem(tag+1, nil), []byte{byte(tag + 1), 0})
		checkList(t, "item without a body", impl.EncodeItem(tag+1, []byte{}), []byte{byte(tag + 1), 0})
	}
	for n := range 1000 {
		checkList(t, "item", impl.EncodeItem(7, upwards(n)), toldItem(7, upwards(n)))
	}
}

func TestEncodeItemOutside(t *testing.T) {
	tags := []int64{-1, 0, 256, -2, -127, -128, -255, -256, 257, 258, 511, 512, 65535, 65536, 65537, 1 << 32, 1<<32 + 1,
		-1<<32 + 1, math.MaxInt64, math.MinInt64, math.MinInt64 + 1}
	for _, tag := range tags {
		for _, n := range []int{0, 1, 127, 128, 256, 65535, 65536} {
			checkList(t, "item of another tag", impl.EncodeItem(tag, make([]byte, n)), nil)
		}
	}
	for _, n := range []int{65536, 65537, 65536 + 127, 131071, 131072, 1 << 20, 1<<24 + 5} {
		for _, tag := range []int64{1, 4, 255} {
			if got := impl.EncodeItem(tag, make([]byte, n)); len(got) != 0 {
				t.Errorf("a body of %d bytes makes an item of %d", n, len(got))
			}
		}
	}
	for _, tag := range []int64{1, 255} {
		if got := impl.EncodeItem(tag, make([]byte, 65535)); len(got) != 65539 {
			t.Errorf("a body of 65535 bytes makes an item of %d", len(got))
		}
	}
}

func TestPromise15ItemsAlone(t *testing.T) {
	r := rand.New(rand.NewSource(151))
	for _, n := range bodySizes() {
		for _, tag := range itemTags() {
			body := randomList(r, n)
			whole := impl.EncodeItem(tag, body)
			checkItemAt(t, whole, 0, impl.ItemResult{Good: true, Tag: tag, Body: body, Next: int64(len(whole))})
		}
	}
	for n := range 700 {
		body := randomList(r, n)
		whole := impl.EncodeItem(int64(1+n%255), body)
		checkItemAt(t, whole, 0, impl.ItemResult{Good: true, Tag: int64(1 + n%255), Body: body, Next: int64(len(whole))})
	}
}

// An item comes back with any bytes ahead of it and behind it.
func TestPromise15ItemsAmongBytes(t *testing.T) {
	r := rand.New(rand.NewSource(152))
	for _, n := range bodySizes() {
		for range 20 {
			tag, body, ahead := 1+r.Int63n(255), randomList(r, n), randomList(r, r.Intn(300))
			form := impl.EncodeItem(tag, body)
			whole := slices.Concat(ahead, form, randomList(r, r.Intn(300)))
			at := int64(len(ahead))
			checkItemAt(t, whole, at, impl.ItemResult{Good: true, Tag: tag, Body: body, Next: at + int64(len(form))})
		}
	}
}

// All lists of a few bytes, at each of their places.
func TestPromise15EveryShortList(t *testing.T) {
	found := 0
	for n := range 7 {
		for _, b := range allListsOf(n, 0, 1, 2, 127, 128, 129, 130) {
			found += checkEveryPlace(t, b)
		}
	}
	if found < 10000 {
		t.Errorf("only %d items", found)
	}
}

func TestPromise15AnyBytes(t *testing.T) {
	r := rand.New(rand.NewSource(153))
	found := 0
	for range 400 {
		b := randomList(r, r.Intn(500))
		for i := range b {
			// Many small bytes, and many that begin a long form.
			switch r.Intn(4) {
			case 0:
				b[i] = byte(r.Intn(5))
			case 1:
				b[i] = byte(126 + r.Intn(7))
			}
		}
		found += checkEveryPlace(t, b)
	}
	if found < 10000 {
		t.Errorf("only %d items", found)
	}
}

func TestDecodeItemPlaces(t *testing.T) {
	r := rand.New(rand.NewSource(154))
	lists := [][]byte{nil, {}, {4}, {4, 0}, {0, 0}, make([]byte, 40), bytes.Repeat([]byte{1}, 300), full(300)}
	for range 20 {
		var whole []byte
		for range 5 {
			whole = append(whole, impl.EncodeItem(1+r.Int63n(255), randomList(r, r.Intn(300)))...)
		}
		lists = append(lists, whole)
	}
	for _, b := range lists {
		checkEveryPlace(t, b)
		for _, at := range outsidePlaces(len(b)) {
			if at < 0 || at >= int64(len(b)) {
				checkNoItem(t, b, at)
			}
		}
	}
}

func TestDecodeItemTagZero(t *testing.T) {
	for _, n := range bodySizes() {
		whole := toldItem(1, upwards(n))
		whole[0] = 0
		checkNoItem(t, whole, 0)
		checkNoItem(t, append([]byte{5, 0}, whole...), 2)
	}
}

// Every first byte of a length, with few and with many bytes behind it.
func TestDecodeItemEveryLengthStart(t *testing.T) {
	r := rand.New(rand.NewSource(155))
	for start := range 256 {
		for _, n := range []int{0, 1, 2, 3, 126, 127, 128, 129, 130, 300, 600} {
			for _, behind := range [][]byte{make([]byte, n), bytes.Repeat([]byte{1}, n), full(n), randomList(r, n)} {
				b := append([]byte{4, byte(start)}, behind...)
				checkItemAt(t, b, 0, toldItemAt(b, 0))
			}
		}
		good := start < 128 || start == 129 || start == 130
		b := append([]byte{4, byte(start), 200, 1}, make([]byte, 70000)...)
		if got := impl.DecodeItem(b, 0); got.Good != good {
			t.Errorf("the length that begins with %d: got %v", start, got.Good)
		}
	}
}

// The marks ahead of every length: only those take it that have no shorter form for it.
func TestDecodeItemLongerForms(t *testing.T) {
	behind := upwards(66000)
	for n := range 256 {
		b := slices.Concat([]byte{4, 129, byte(n)}, behind)
		if n < 128 {
			checkNoItem(t, b, 0)
		} else {
			checkItemAt(t, b, 0, impl.ItemResult{Good: true, Tag: 4, Body: behind[:n], Next: int64(3 + n)})
		}
		for _, low := range []int{0, 1, 127, 128, 129, 254, 255} {
			length := 256*n + low
			b := slices.Concat([]byte{4, 130, byte(n), byte(low)}, behind)
			if length < 256 {
				checkNoItem(t, b, 0)
			} else {
				checkItemAt(t, b, 0, impl.ItemResult{Good: true, Tag: 4, Body: behind[:length], Next: int64(4 + length)})
			}
		}
	}
}

// Forms that other programs take: a length without an end, and lengths in three and more bytes.
func TestDecodeItemOtherForms(t *testing.T) {
	for _, n := range []int{0, 1, 5, 127, 128, 200, 255, 256, 1000, 65535} {
		body := upwards(n)
		low, high := byte(n), byte(n>>8)
		for _, form := range [][]byte{{128}, {131, 0, high, low}, {131, high, low, 0}, {132, 0, 0, high, low}, {136, 0, 0, 0, 0, 0, 0, high, low}, {255}} {
			checkNoItem(t, slices.Concat([]byte{4}, form, body, []byte{0, 0}), 0)
		}
	}
	checkNoItem(t, slices.Concat([]byte{4, 131, 1, 0, 0}, make([]byte, 65536)), 0)
}

// What is cut off still stands in the room behind the list.
func TestDecodeItemEndsTooEarly(t *testing.T) {
	r := rand.New(rand.NewSource(156))
	for _, n := range bodySizes() {
		whole := impl.EncodeItem(1+r.Int63n(255), randomList(r, n))
		size := len(whole)
		cuts := []int{0, 1, 2, 3, 4, size / 2, size - 1, size - 2, size - 3}
		for range 50 {
			cuts = append(cuts, r.Intn(size))
		}
		for _, cut := range cuts {
			if cut >= 0 && cut < size {
				checkNoItem(t, whole[:cut], 0)
				checkNoItem(t, append([]byte{9, 0}, whole[:cut]...), 2)
			}
		}
	}
}

// The library's items have the same lengths, where their tags have one byte.
func TestItemLibrary(t *testing.T) {
	r := rand.New(rand.NewSource(157))
	for _, n := range bodySizes() {
		for _, tag := range []int64{impl.TagBytes, impl.TagText, impl.TagTime, 0x80, 0x9e, 0xc1} {
			body := randomList(r, n)
			form, err := asn1.Marshal(asn1.RawValue{Class: int(tag >> 6), Tag: int(tag & 31), Bytes: body})
			if err != nil {
				t.Fatal(err)
			}
			if !bytes.Equal(impl.EncodeItem(tag, body), form) {
				t.Errorf("the tag %d and %d bytes: not as in the library", tag, n)
			}
			var read asn1.RawValue
			rest, err := asn1.Unmarshal(append(impl.EncodeItem(tag, body), 1, 2, 3), &read)
			if err != nil || len(rest) != 3 || !bytes.Equal(read.Bytes, body) {
				t.Errorf("the tag %d and %d bytes: the library reads something else: %v", tag, n, err)
			}
		}
	}
}

func ofEncodeItem(tag int64) func(args [][]byte) [][]byte {
	return func(args [][]byte) [][]byte {
		return [][]byte{impl.EncodeItem(tag, args[0]), impl.EncodeItem(tag, args[0])}
	}
}

func ofDecodeItem(at int64) func(args [][]byte) [][]byte {
	return func(args [][]byte) [][]byte {
		return [][]byte{impl.DecodeItem(args[0], at).Body, impl.DecodeItem(args[0], at).Body}
	}
}

func TestItemMemory(t *testing.T) {
	r := rand.New(rand.NewSource(158))
	for _, n := range []int{0, 1, 2, 127, 128, 255, 256, 1000} {
		body := randomList(r, n)
		for _, tag := range []int64{-1, 0, 1, 48, 255, 256} {
			checkMemory(t, "encoded item", ofEncodeItem(tag), body)
		}
		whole := slices.Concat([]byte{7, 1, 9}, impl.EncodeItem(4, body), []byte{5, 1, 8})
		for _, at := range []int64{-1, 0, 3, int64(len(whole) - 3), int64(len(whole)), math.MaxInt64} {
			checkMemory(t, "decoded item", ofDecodeItem(at), whole)
		}
		for cut := range min(len(whole), 40) {
			checkMemory(t, "decoded item", ofDecodeItem(3), whole[:cut])
		}
	}
	checkMemory(t, "encoded item", ofEncodeItem(4), make([]byte, 65535))
	checkMemory(t, "encoded item", ofEncodeItem(4), make([]byte, 65536))
	checkMemory(t, "decoded item", ofDecodeItem(0), impl.EncodeItem(4, make([]byte, 65535)))
}
