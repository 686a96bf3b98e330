package tests

import (
	"bytes"
	"math/rand"
	"slices"
	"testing"

	"loop.example/g00004/impl"
)

// What chapter 15 says of records one behind the other, and promise 22.

func sizesOf(records []impl.Record) []int {
	var sizes []int
	for _, record := range records {
		sizes = append(sizes, len(record.Body))
	}
	return sizes
}

// checkCutRecords holds bytes to what they are cut into; without a code, that one behind the other is the very bytes.
func checkCutRecords(t *testing.T, what string, b []byte, want impl.RecordList) {
	t.Helper()
	got := impl.CutRecords(b)
	if got.Code != want.Code || !sameRecords(got.Records, want.Records) || !bytes.Equal(got.Rest, want.Rest) {
		t.Errorf("%s: %d bytes %x: got %d, bodies of %d, rest %x, want %d, bodies of %d, rest %x", what, len(b), beginning(b),
			got.Code, sizesOf(got.Records), beginning(got.Rest), want.Code, sizesOf(want.Records), beginning(want.Rest))
		return
	}
	if whole := toldRecordForms(got.Records); got.Code == 0 {
		checkList(t, what+", put together again", append(whole, got.Rest...), b)
	}
}

func checkCutRecordsTold(t *testing.T, what string, b []byte) int64 {
	t.Helper()
	want := toldCutRecords(b)
	checkCutRecords(t, what, b, want)
	return want.Code
}

func encodeRecords(records []impl.Record) []byte {
	var forms []byte
	for _, record := range records {
		forms = append(forms, impl.EncodeRecord(record)...)
	}
	return forms
}

func TestCutRecordsExamples(t *testing.T) {
	two := []impl.Record{{Kind: 22, Body: []byte{1, 2}}, {Kind: 21, Body: []byte{10}}}
	checkCutRecords(t, "nothing", nil, impl.RecordList{})
	checkCutRecords(t, "nothing", []byte{}, impl.RecordList{})
	checkCutRecords(t, "two", []byte{22, 0, 2, 1, 2, 21, 0, 1, 10}, impl.RecordList{Records: two})
	checkCutRecords(t, "two and a rest", []byte{22, 0, 2, 1, 2, 21, 0, 1, 10, 23, 0}, impl.RecordList{Records: two, Rest: []byte{23, 0}})
	checkCutRecords(t, "two and another kind", []byte{22, 0, 2, 1, 2, 21, 0, 1, 10, 20, 0, 1, 1}, impl.RecordList{Code: 1, Records: two})
	checkCutRecords(t, "two and no body", []byte{22, 0, 2, 1, 2, 21, 0, 1, 10, 23, 0, 0}, impl.RecordList{Code: 2, Records: two})
	checkCutRecords(t, "two and a great length", []byte{22, 0, 2, 1, 2, 21, 0, 1, 10, 23, 9, 18}, impl.RecordList{Code: 2, Records: two})
}

// aheads are whole records of several numbers and sizes, none among them.
func aheads(r *rand.Rand) [][]impl.Record {
	return [][]impl.Record{nil, {{Kind: 22, Body: []byte{9}}}, randomRecords(r, 2, 30), randomRecords(r, 5, 300), {{Kind: 23, Body: full(impl.MaxSealed)}}}
}

func TestCutRecordsFirstByte(t *testing.T) {
	r := rand.New(rand.NewSource(297))
	for first := range 256 {
		for _, records := range aheads(r) {
			for _, behind := range [][]byte{nil, {0}, {9}, {255}, {0, 0}, {9, 18}, {255, 255}, {0, 1, 5}, {0, 2, 5}, full(3000)} {
				b := slices.Concat(toldRecordForms(records), []byte{byte(first)}, behind)
				code := checkCutRecordsTold(t, "a first byte", b)
				if isKind := first >= 21 && first <= 23; isKind != (code != 1) {
					t.Errorf("the kind %d has the code %d", first, code)
				}
			}
		}
	}
}

// Another kind is told ahead of a bad length, and as soon as it is there.
func TestCutRecordsKindAheadOfLength(t *testing.T) {
	r := rand.New(rand.NewSource(298))
	for _, kind := range []byte{0, 1, 19, 20, 24, 25, 128, 255} {
		for _, length := range [][]byte{{}, {0}, {255}, {0, 0}, {9, 18}, {255, 255}, {0, 1}, {9, 17}} {
			for _, records := range aheads(r) {
				b := slices.Concat(toldRecordForms(records), []byte{kind}, length)
				checkCutRecords(t, "another kind", b, impl.RecordList{Code: 1, Records: records})
				checkCutRecords(t, "another kind", append(b, upwards(2500)...), impl.RecordList{Code: 1, Records: records})
			}
		}
	}
}

func TestCutRecordsEveryLength(t *testing.T) {
	r := rand.New(rand.NewSource(299))
	records := randomRecords(r, 2, 20)
	ahead := toldRecordForms(records)
	for length := range 65536 {
		kind := recordKinds()[length%3]
		head := toldHead(kind, length)
		alone, behind := impl.RecordList{Rest: head}, impl.RecordList{Records: records, Rest: head}
		if length == 0 || length > 2321 {
			alone, behind = impl.RecordList{Code: 2}, impl.RecordList{Code: 2, Records: records}
		}
		checkCutRecords(t, "a length", head, alone)
		checkCutRecords(t, "a length behind records", slices.Concat(ahead, head), behind)
	}
}

// With a bad length it makes no difference what stands behind it.
func TestCutRecordsBadLengths(t *testing.T) {
	r := rand.New(rand.NewSource(300))
	for _, kind := range recordKinds() {
		for _, length := range []int{0, 2322, 2323, 2560, 4096, 65280, 65535} {
			for _, records := range aheads(r) {
				b := slices.Concat(toldRecordForms(records), toldHead(kind, length))
				for _, behind := range [][]byte{nil, {1}, {20}, {22, 0, 1, 5}, full(2322), make([]byte, 66000)} {
					checkCutRecords(t, "a bad length", slices.Concat(b, behind), impl.RecordList{Code: 2, Records: records})
				}
			}
		}
	}
}

// Of a length of which only one byte is there nothing can be said, whatever that is.
func TestCutRecordsHalfALength(t *testing.T) {
	r := rand.New(rand.NewSource(301))
	for _, records := range aheads(r) {
		for _, kind := range recordKinds() {
			b := append(toldRecordForms(records), byte(kind))
			checkCutRecords(t, "no length", b, impl.RecordList{Records: records, Rest: []byte{byte(kind)}})
			for half := range 256 {
				rest := []byte{byte(kind), byte(half)}
				checkCutRecords(t, "half a length", slices.Concat(b, rest[1:]), impl.RecordList{Records: records, Rest: rest})
			}
		}
	}
}

func TestCutRecordsNotWholeYet(t *testing.T) {
	r := rand.New(rand.NewSource(302))
	for _, n := range []int{1, 2, 17, 255, 256, 257, impl.MaxSealed - 1, impl.MaxSealed} {
		for _, records := range aheads(r) {
			form := toldRecordForm(impl.Record{Kind: recordKinds()[r.Intn(3)], Body: randomList(r, n)})
			for cut := 0; cut < len(form); cut += 1 + len(form)/100 {
				checkCutRecords(t, "a part", slices.Concat(toldRecordForms(records), form[:cut]), impl.RecordList{Records: records, Rest: form[:cut]})
			}
			short := form[:len(form)-1]
			checkCutRecords(t, "a byte less", slices.Concat(toldRecordForms(records), short), impl.RecordList{Records: records, Rest: short})
		}
	}
}

func TestPromise22WholeRecords(t *testing.T) {
	r := rand.New(rand.NewSource(303))
	for count := range 12 {
		for _, most := range []int64{3, 100, impl.MaxSealed} {
			for range 20 {
				records := randomRecords(r, count, most)
				checkCutRecords(t, "whole records", encodeRecords(records), impl.RecordList{Records: records})
			}
		}
	}
	for _, record := range []impl.Record{{Kind: 21, Body: []byte{0}}, {Kind: 22, Body: make([]byte, impl.MaxSealed)}, {Kind: 23, Body: full(impl.MaxSealed)}} {
		for count := range 6 {
			records := slices.Repeat([]impl.Record{record}, count)
			checkCutRecords(t, "one record again and again", encodeRecords(records), impl.RecordList{Records: records})
		}
	}
}

// checkCutTwice cuts the first bytes, and goes on with their rest and the bytes behind them.
func checkCutTwice(t *testing.T, records []impl.Record, b []byte, place int) {
	t.Helper()
	first := impl.CutRecords(b[:place])
	second := impl.CutRecords(slices.Concat(first.Rest, b[place:]))
	if first.Code != 0 || second.Code != 0 || len(second.Rest) != 0 || !sameRecords(slices.Concat(first.Records, second.Records), records) {
		t.Errorf("bodies of %d, cut at %d: codes %d and %d, bodies of %d and of %d, rest %x", sizesOf(records), place, first.Code, second.Code,
			sizesOf(first.Records), sizesOf(second.Records), beginning(second.Rest))
	}
}

func TestPromise22CutAtEveryPlace(t *testing.T) {
	r := rand.New(rand.NewSource(304))
	lists := [][]impl.Record{nil, randomRecords(r, 3, impl.MaxSealed), {{Kind: 23, Body: full(impl.MaxSealed)}, {Kind: 21, Body: []byte{0}}}}
	for count := range 9 {
		lists = append(lists, randomRecords(r, count, 3), randomRecords(r, count, 40), randomRecords(r, count, 300))
	}
	for _, records := range lists {
		b := encodeRecords(records)
		for place := range len(b) + 1 {
			checkCutTwice(t, records, b, place)
		}
	}
}

// Bytes that come in many pieces: what is left over goes ahead of the next one.
func TestPromise22CutAtManyPlaces(t *testing.T) {
	r := rand.New(rand.NewSource(305))
	for _, most := range []int{1, 2, 3, 4, 7, 50, 1000, 5000} {
		for range 30 {
			records := randomRecords(r, r.Intn(8), int64(min(impl.MaxSealed, 20*most)))
			left := encodeRecords(records)
			var told []impl.Record
			var rest []byte
			for len(left) > 0 {
				n := 1 + r.Intn(min(len(left), most))
				got := impl.CutRecords(slices.Concat(rest, left[:n]))
				if got.Code != 0 {
					t.Fatalf("%d bytes have the code %d", n, got.Code)
				}
				told, rest, left = append(told, got.Records...), got.Rest, left[n:]
			}
			if !sameRecords(told, records) || len(rest) > 0 {
				t.Errorf("bodies of %d come as %d, with %d bytes left over", sizesOf(records), sizesOf(told), len(rest))
			}
		}
	}
}

// A code comes with the same bytes, wherever they are cut ahead of it.
func TestCutRecordsTwiceAtAFault(t *testing.T) {
	r := rand.New(rand.NewSource(306))
	for _, fault := range [][]byte{{20}, {20, 0, 0}, {22, 0, 0}, {23, 9, 18}} {
		records := randomRecords(r, 4, 40)
		b := append(encodeRecords(records), fault...)
		for place := range len(b) {
			first := impl.CutRecords(b[:place])
			if first.Code != 0 {
				continue // it is there already
			}
			second := impl.CutRecords(slices.Concat(first.Rest, b[place:]))
			if want := toldCutRecords(fault).Code; second.Code != want || len(second.Rest) != 0 || !sameRecords(slices.Concat(first.Records, second.Records), records) {
				t.Errorf("%x cut at %d: the code %d, want %d, rest %x", b, place, second.Code, want, second.Rest)
			}
		}
	}
}

func TestCutRecordsSpoilt(t *testing.T) {
	r := rand.New(rand.NewSource(307))
	codes := map[int64]int{}
	for range 4000 {
		b := encodeRecords(randomRecords(r, 1+r.Intn(5), 12))
		for range 1 + r.Intn(2) {
			b[r.Intn(len(b))] = byte(r.Intn(256))
		}
		codes[checkCutRecordsTold(t, "spoilt", b[:len(b)-r.Intn(3)])]++
	}
	for code := range int64(3) {
		if codes[code] < 100 {
			t.Errorf("the code %d came %d times", code, codes[code])
		}
	}
}

func TestCutRecordsAnyBytes(t *testing.T) {
	r := rand.New(rand.NewSource(308))
	for n := range 9 {
		for _, b := range allListsOf(n, 0, 1, 9, 22) {
			checkCutRecordsTold(t, "a few bytes", b)
		}
	}
	for range 5000 {
		b := randomList(r, r.Intn(40))
		for i := range b {
			if r.Intn(2) == 0 {
				b[i] = []byte{0, 1, 2, 21, 22, 23}[r.Intn(6)]
			}
		}
		checkCutRecordsTold(t, "any bytes", b)
	}
}

func TestCutRecordsVeryMany(t *testing.T) {
	const count = 100000
	got := impl.CutRecords(append(bytes.Repeat([]byte{21, 0, 1, 7, 23, 0, 2, 8, 9}, count), 23, 0))
	if got.Code != 0 || len(got.Records) != 2*count || !bytes.Equal(got.Rest, []byte{23, 0}) {
		t.Errorf("got %d, %d records, rest %x", got.Code, len(got.Records), got.Rest)
	}
	for i, record := range got.Records {
		if want := []impl.Record{{Kind: 21, Body: []byte{7}}, {Kind: 23, Body: []byte{8, 9}}}[i%2]; !sameRecord(record, want) {
			t.Fatalf("record %d is %d %x", i, record.Kind, record.Body)
		}
	}
}
