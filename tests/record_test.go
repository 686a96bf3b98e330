package tests

import (
	"bytes"
	"math"
	"math/rand"
	"slices"
	"testing"

	"loop.example/g00004/impl"
)

// What chapter 15 says of single records, of nonces, and of pieces.

func checkRecord(t *testing.T, record impl.Record) {
	t.Helper()
	got := impl.EncodeRecord(record)
	if toldRecordWrong(record) {
		if len(got) != 0 {
			t.Errorf("a record of the kind %d with %d bytes: got %d bytes %x", record.Kind, len(record.Body), len(got), beginning(got))
		}
		return
	}
	checkList(t, "record", got, toldRecordForm(record), record.Body)
}

func TestEncodeRecordExamples(t *testing.T) {
	checkList(t, "record", impl.EncodeRecord(impl.Record{Kind: 22, Body: []byte{1, 2}}), []byte{22, 0, 2, 1, 2})
	checkList(t, "record", impl.EncodeRecord(impl.Record{Kind: 21, Body: []byte{0}}), []byte{21, 0, 1, 0})
	checkList(t, "record", impl.EncodeRecord(impl.Record{Kind: 23, Body: full(2321)}), append([]byte{23, 9, 17}, full(2321)...))
	checkList(t, "record", impl.EncodeRecord(impl.Record{Kind: 23, Body: full(256)}), append([]byte{23, 1, 0}, full(256)...))
	if impl.RecordAlert != 21 || impl.RecordPlain != 22 || impl.RecordData != 23 {
		t.Errorf("the kinds are %d, %d, %d", impl.RecordAlert, impl.RecordPlain, impl.RecordData)
	}
}

func TestEncodeRecordKindsAndSizes(t *testing.T) {
	r := rand.New(rand.NewSource(292))
	for kind := int64(19); kind <= 25; kind++ {
		for _, n := range []int{0, 1, 2, 255, 256, 257, impl.MaxSealed - 1, impl.MaxSealed, impl.MaxSealed + 1, 4096, 65535, 65536, 65537, 65536 + 2000} {
			for _, body := range [][]byte{make([]byte, n), full(n), randomList(r, n)} {
				checkRecord(t, impl.Record{Kind: kind, Body: body})
			}
		}
	}
}

func TestEncodeRecordOtherKinds(t *testing.T) {
	for _, kind := range noRecordKinds() {
		for _, n := range []int{0, 1, 40, impl.MaxSealed, impl.MaxSealed + 1} {
			checkRecord(t, impl.Record{Kind: kind, Body: upwards(n)})
		}
	}
	for kind := int64(-300); kind <= 600; kind++ {
		checkRecord(t, impl.Record{Kind: kind, Body: []byte{7}})
	}
}

func TestEncodeRecordEverySize(t *testing.T) {
	body := upwards(impl.MaxSealed + 40)
	for n := range body {
		checkRecord(t, impl.Record{Kind: recordKinds()[n%3], Body: body[:n]})
	}
}

func checkNonce(t *testing.T, iv []byte, number int64) {
	t.Helper()
	got := impl.RecordNonce(iv, number)
	if len(iv) != 12 || number < 0 || number > 4294967295 {
		if len(got) != 0 {
			t.Errorf("nonce of %x and %d: got %x", iv, number, got)
		}
		return
	}
	if want := toldNonce(iv, number); !bytes.Equal(got, want) {
		t.Errorf("nonce of %x and %d: got %x, want %x", iv, number, got, want)
	}
}

func TestRecordNonceExamples(t *testing.T) {
	checkList(t, "nonce", impl.RecordNonce(upwards(12), 0), upwards(12))
	checkList(t, "nonce", impl.RecordNonce(upwards(12), 258), []byte{0, 1, 2, 3, 4, 5, 6, 7, 8, 9, 11, 9})
	checkList(t, "nonce", impl.RecordNonce(make([]byte, 12), 0x01020304), []byte{0, 0, 0, 0, 0, 0, 0, 0, 1, 2, 3, 4})
	checkList(t, "nonce", impl.RecordNonce(full(12), impl.MaxSequence), append(full(8), 0, 0, 0, 0))
}

func TestRecordNonceEdges(t *testing.T) {
	r := rand.New(rand.NewSource(293))
	numbers := append(recordNumbers(), outsideNumbers()...)
	numbers = append(numbers, math.MinInt64, math.MaxInt64)
	for _, n := range []int{0, 1, 4, 8, 11, 12, 13, 16, 24, 32, 256 + 12} {
		for _, iv := range [][]byte{make([]byte, n), full(n), upwards(n), randomList(r, n)} {
			for _, number := range numbers {
				checkNonce(t, iv, number)
			}
		}
	}
}

func TestRecordNonceTold(t *testing.T) {
	r := rand.New(rand.NewSource(294))
	for range 2000 {
		checkNonce(t, randomList(r, 12), r.Int63n(impl.MaxSequence+1))
	}
	iv := randomList(r, 12)
	for number := range int64(2000) {
		checkNonce(t, iv, number)
		checkNonce(t, iv, impl.MaxSequence-1000+number)
	}
}

// manyNumbers are within the bounds, each only once.
func manyNumbers(r *rand.Rand) []int64 {
	numbers := recordNumbers()
	for bit := range 32 {
		numbers = append(numbers, 1<<bit, 1<<bit-1, 1<<bit+1, impl.MaxSequence-1<<bit, impl.MaxSequence>>bit)
	}
	for range 100 {
		numbers = append(numbers, r.Int63n(impl.MaxSequence+1))
	}
	numbers = slices.DeleteFunc(numbers, func(n int64) bool { return n > impl.MaxSequence })
	slices.Sort(numbers)
	return slices.Compact(numbers)
}

func TestPromise21TwoNumbersTwoNonces(t *testing.T) {
	r := rand.New(rand.NewSource(295))
	numbers := manyNumbers(r)
	for _, iv := range [][]byte{make([]byte, 12), full(12), upwards(12), randomList(r, 12), randomList(r, 12)} {
		var nonces [][]byte
		for _, number := range numbers {
			nonces = append(nonces, impl.RecordNonce(iv, number))
		}
		for i, one := range nonces {
			if len(one) != 12 {
				t.Fatalf("nonce of %x and %d has %d bytes", iv, numbers[i], len(one))
			}
			for j, other := range nonces {
				if bytes.Equal(one, other) != (i == j) {
					t.Errorf("nonces of %x and %d, %d: %x and %x", iv, numbers[i], numbers[j], one, other)
				}
			}
			checkList(t, "nonce asked again", impl.RecordNonce(iv, numbers[i]), one, iv)
		}
	}
}

func TestPromise21NoncesInARow(t *testing.T) {
	for _, first := range []int64{0, 1<<16 - 35000, 1<<24 - 35000, impl.MaxSequence - 69999} {
		seen := map[string]int64{}
		for number := first; number < first+70000; number++ {
			nonce := string(impl.RecordNonce(upwards(12), number))
			if other, ok := seen[nonce]; ok {
				t.Fatalf("%d and %d have the nonce %x", other, number, nonce)
			}
			seen[nonce] = number
		}
	}
}

// checkPieces holds pieces to the data, one behind the other, and to their sizes.
func checkPieces(t *testing.T, data []byte) {
	t.Helper()
	pieces := impl.Pieces(data)
	if want := (len(data) + 2047) / 2048; len(pieces) != want {
		t.Errorf("%d bytes are %d pieces, want %d", len(data), len(pieces), want)
	}
	var whole []byte
	for i, piece := range pieces {
		n := len(piece.Data)
		if n == 0 || n > 2048 || n < 2048 && i < len(pieces)-1 {
			t.Errorf("%d bytes: piece %d of %d has %d", len(data), i, len(pieces), n)
		}
		whole = append(whole, piece.Data...)
	}
	if !bytes.Equal(whole, data) {
		t.Errorf("%d bytes %x come as %d, %x", len(data), beginning(data), len(whole), beginning(whole))
	}
}

func TestPieces(t *testing.T) {
	r := rand.New(rand.NewSource(296))
	sizes := []int{0, 1, 2, 100, 20000, 65536, 200000, 200001}
	for count := 1; count <= 5; count++ {
		sizes = append(sizes, count*impl.MaxPlain-1, count*impl.MaxPlain, count*impl.MaxPlain+1)
	}
	for _, n := range sizes {
		for _, data := range [][]byte{make([]byte, n), upwards(n), randomList(r, n)} {
			checkPieces(t, data)
		}
	}
	for range 300 {
		checkPieces(t, randomList(r, r.Intn(9000)))
	}
}

func TestPiecesOfNoData(t *testing.T) {
	for _, nothing := range [][]byte{nil, {}, full(8)[:0]} {
		if pieces := impl.Pieces(nothing); len(pieces) != 0 {
			t.Errorf("no data are %d pieces", len(pieces))
		}
	}
}

func TestPiecesEverySize(t *testing.T) {
	data := upwards(2*impl.MaxPlain + 50)
	for n := range data {
		checkPieces(t, data[:n])
	}
}

// However much room stands behind data, it is no part of the last piece.
func TestPiecesWithRoomBehind(t *testing.T) {
	for _, n := range []int{1, impl.MaxPlain - 1, impl.MaxPlain, impl.MaxPlain + 1, 5000} {
		checkPieces(t, withRoom(upwards(n), 5000))
	}
}
