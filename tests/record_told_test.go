package tests

import (
	"bytes"
	"math/big"
	"math/rand"
	"slices"

	"loop.example/g00004/impl"
)

// Chapter 15 done another way: a nonce as one number, and the seal as the tests of chapter 8 tell it.

func recordKinds() []int64 {
	return []int64{21, 22, 23}
}

func toldHead(kind int64, size int) []byte {
	return append([]byte{byte(kind)}, toldInBytes(int64(size), 2)...)
}

func toldRecordForm(record impl.Record) []byte {
	return append(toldHead(record.Kind, len(record.Body)), record.Body...)
}

func toldRecordForms(records []impl.Record) []byte {
	var forms []byte
	for _, record := range records {
		forms = append(forms, toldRecordForm(record)...)
	}
	return forms
}

func toldRecordWrong(record impl.Record) bool {
	return !slices.Contains(recordKinds(), record.Kind) || len(record.Body) == 0 || len(record.Body) > 2321
}

// toldCutRecords takes the first record off, and goes on with what is left.
func toldCutRecords(b []byte) impl.RecordList {
	if len(b) == 0 {
		return impl.RecordList{}
	}
	if !slices.Contains(recordKinds(), int64(b[0])) {
		return impl.RecordList{Code: 1}
	}
	if len(b) < 3 {
		return impl.RecordList{Rest: b}
	}
	size := 256*int(b[1]) + int(b[2])
	if size == 0 || size > 2321 {
		return impl.RecordList{Code: 2}
	}
	if len(b) < 3+size {
		return impl.RecordList{Rest: b}
	}
	told := toldCutRecords(b[3+size:])
	first := impl.Record{Kind: int64(b[0]), Body: b[3 : 3+size]}
	told.Records = append([]impl.Record{first}, told.Records...)
	return told
}

func sameRecord(a impl.Record, b impl.Record) bool {
	return a.Kind == b.Kind && bytes.Equal(a.Body, b.Body)
}

func sameRecords(a []impl.Record, b []impl.Record) bool {
	return slices.EqualFunc(a, b, sameRecord)
}

// toldNonce also has one for a number outside the bounds, so that a body can be made which only the bounds keep shut.
func toldNonce(iv []byte, number int64) []byte {
	low := new(big.Int).SetUint64(uint64(number))
	return low.Xor(low, bigOf(iv)).FillBytes(make([]byte, len(iv)))
}

func toldWrongKeys(keys impl.Keys, number int64) bool {
	return len(keys.Key) != 32 || len(keys.Iv) != 12 || number < 0 || number > 4294967295
}

// protection is a call of Protect.
type protection struct {
	keys   impl.Keys
	number int64
	kind   int64
	data   []byte
	pad    int64
}

func (p protection) record() []byte {
	return impl.Protect(p.keys, p.number, p.kind, p.data, p.pad)
}

func (p protection) refused() bool {
	return toldWrongKeys(p.keys, p.number) || !slices.Contains(recordKinds(), p.kind) || len(p.data) > 2048 ||
		len(p.data) == 0 && p.kind != 23 || p.pad < 0 || p.pad > 256
}

func (p protection) told() []byte {
	if p.refused() {
		return nil
	}
	body := toldSealedInside(p.keys, p.number, insideOf(p.data, byte(p.kind), int(p.pad)))
	return toldRecordForm(impl.Record{Kind: 23, Body: body})
}

func insideOf(data []byte, kind byte, pad int) []byte {
	return append(append(bytes.Clone(data), kind), make([]byte, pad)...)
}

// toldSealedInside is the body of a sealed record with anything inside.
func toldSealedInside(keys impl.Keys, number int64, inside []byte) []byte {
	return toldSeal(keys.Key, toldNonce(keys.Iv, number), toldHead(23, len(inside)+16), inside)
}

// sealedInside is the same by the program's seal, which the tests of chapter 8 hold to the told one.
func sealedInside(keys impl.Keys, number int64, inside []byte) []byte {
	return impl.Seal(keys.Key, toldNonce(keys.Iv, number), toldHead(23, len(inside)+16), inside)
}

// toldPlain answers the inside of a body, and whether it opens.
func toldPlain(keys impl.Keys, number int64, body []byte) ([]byte, bool) {
	text, sum := body[:len(body)-16], body[len(body)-16:]
	nonce := toldNonce(keys.Iv, number)
	good := bytes.Equal(toldSealSum(keys.Key, nonce, toldHead(23, len(body)), text), sum)
	return toldStream(keys.Key, 1, nonce, text), good
}

func toldUnprotect(keys impl.Keys, number int64, body []byte) impl.Opened {
	if toldWrongKeys(keys, number) || len(body) < 17 || len(body) > 2321 {
		return impl.Opened{Code: 1}
	}
	inside, good := toldPlain(keys, number, body)
	if !good {
		return impl.Opened{Code: 2}
	}
	return toldOpened(inside)
}

// toldOpened is what an inside tells.
func toldOpened(inside []byte) impl.Opened {
	place := -1
	for i, b := range inside {
		if b > 0 {
			place = i
		}
	}
	switch {
	case place < 0:
		return impl.Opened{Code: 3}
	case inside[place] < 21 || inside[place] > 23:
		return impl.Opened{Code: 4}
	case place > 2048:
		return impl.Opened{Code: 5}
	case place == 0 && inside[place] != 23:
		return impl.Opened{Code: 6}
	}
	return impl.Opened{Kind: int64(inside[place]), Data: inside[:place]}
}

func sameOpened(a impl.Opened, b impl.Opened) bool {
	return a.Code == b.Code && a.Kind == b.Kind && bytes.Equal(a.Data, b.Data)
}

func randomKeys(r *rand.Rand) impl.Keys {
	return impl.Keys{Key: randomList(r, 32), Iv: randomList(r, 12)}
}

func someKeys(r *rand.Rand) []impl.Keys {
	return []impl.Keys{{Key: make([]byte, 32), Iv: make([]byte, 12)}, {Key: full(32), Iv: full(12)}, {Key: upwards(32), Iv: upwards(12)},
		impl.TrafficKeys(randomList(r, 32)), randomKeys(r), randomKeys(r)}
}

// recordNumbers are sequence numbers within the bounds, their ends and those of their bytes among them.
func recordNumbers() []int64 {
	return []int64{0, 1, 2, 255, 256, 65535, 65536, 1<<24 - 1, 1 << 24, 1<<31 - 1, 1 << 31, impl.MaxSequence - 1, impl.MaxSequence}
}

// outsideNumbers are none, but some have bits of one that is.
func outsideNumbers() []int64 {
	return []int64{-1, -2, -256, -impl.MaxSequence, impl.MaxSequence + 1, impl.MaxSequence + 2, 1 << 40, 1<<62 + 1, 1<<63 - 1, -1 << 63, -1<<63 + 1}
}

// noRecordKinds are beside the kinds, or have the lowest bits of one.
func noRecordKinds() []int64 {
	kinds := append(strangeNumbers(), 0, 1, 19, 20, 24, 25, 87, -1, -21, -22, -23)
	for _, kind := range recordKinds() {
		kinds = append(kinds, kind+256, kind-256, kind+1<<16, kind+1<<32, kind|-1<<63)
	}
	return kinds
}

// recordData are data of a record: short ones, long ones, and such as look like a kind or like padding at their end.
func recordData(r *rand.Rand) [][]byte {
	long := randomList(r, impl.MaxPlain)
	return [][]byte{{0}, {1}, {21}, {22}, {23}, {255}, {23, 0}, {0, 23}, {5, 22, 0, 0, 0}, make([]byte, 10), []byte("some data"), randomList(r, 300),
		long, long[1:], append(bytes.Clone(long[:impl.MaxPlain-3]), 0, 0, 0), append(bytes.Clone(long[:impl.MaxPlain-1]), 23), make([]byte, impl.MaxPlain)}
}

func recordPads() []int64 {
	return []int64{0, 1, 2, 255, impl.MaxPad}
}

// randomProtection is within the limits.
func randomProtection(r *rand.Rand) protection {
	keys, data := someKeys(r), recordData(r)
	p := protection{
		keys:   keys[r.Intn(len(keys))],
		number: edgeOr(r, recordNumbers(), impl.MaxSequence),
		kind:   recordKinds()[r.Intn(3)],
		data:   data[r.Intn(len(data))],
		pad:    edgeOr(r, recordPads(), impl.MaxPad),
	}
	if p.kind == 23 && r.Intn(5) == 0 {
		p.data = nil
	}
	return p
}

// randomRecord is well-formed, plain or not.
func randomRecord(r *rand.Rand, most int64) impl.Record {
	size := 1 + edgeOr(r, []int64{0, 1, most - 2, most - 1}, most-1)
	return impl.Record{Kind: recordKinds()[r.Intn(3)], Body: randomList(r, int(size))}
}

func randomRecords(r *rand.Rand, count int, most int64) []impl.Record {
	var records []impl.Record
	for range count {
		records = append(records, randomRecord(r, most))
	}
	return records
}
