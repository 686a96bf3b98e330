package tests

import (
	"bytes"
	"math/rand"
	"slices"
	"testing"

	"loop.example/g00004/impl"
)

// The general rules 2 to 4 for chapter 15, the records and pieces of one cutting included.

func ofEncodeRecord(kind int64) func(args [][]byte) [][]byte {
	return func(args [][]byte) [][]byte {
		record := impl.Record{Kind: kind, Body: args[0]}
		return [][]byte{impl.EncodeRecord(record), impl.EncodeRecord(record)}
	}
}

func ofCutRecords(args [][]byte) [][]byte {
	cut := impl.CutRecords(args[0])
	var lists [][]byte
	for _, record := range cut.Records {
		lists = append(lists, record.Body)
	}
	return append(lists, cut.Rest)
}

func ofRecordNonce(number int64) func(args [][]byte) [][]byte {
	return func(args [][]byte) [][]byte {
		return [][]byte{impl.RecordNonce(args[0], number), impl.RecordNonce(args[0], number)}
	}
}

// ofProtect has key, iv and data as arguments.
func ofProtect(p protection) func(args [][]byte) [][]byte {
	return func(args [][]byte) [][]byte {
		keys := impl.Keys{Key: args[0], Iv: args[1]}
		return [][]byte{impl.Protect(keys, p.number, p.kind, args[2], p.pad), impl.Protect(keys, p.number, p.kind, args[2], p.pad)}
	}
}

// ofUnprotect has key, iv and body as arguments.
func ofUnprotect(number int64) func(args [][]byte) [][]byte {
	return func(args [][]byte) [][]byte {
		keys := impl.Keys{Key: args[0], Iv: args[1]}
		return [][]byte{impl.Unprotect(keys, number, args[2]).Data, impl.Unprotect(keys, number, args[2]).Data}
	}
}

func ofPieces(args [][]byte) [][]byte {
	var lists [][]byte
	for _, piece := range impl.Pieces(args[0]) {
		lists = append(lists, piece.Data)
	}
	return lists
}

func TestEncodeRecordMemory(t *testing.T) {
	r := rand.New(rand.NewSource(330))
	for kind := int64(19); kind <= 25; kind++ {
		for _, n := range []int{0, 1, 2, 5, 13, 29, 100, impl.MaxSealed, impl.MaxSealed + 1} {
			checkApart(t, "record", ofEncodeRecord(kind), randomList(r, n))
		}
	}
}

func TestCutRecordsMemory(t *testing.T) {
	r := rand.New(rand.NewSource(331))
	for count := range 6 {
		for _, most := range []int64{3, 40, 1000} {
			whole := encodeRecords(randomRecords(r, count, most))
			checkApart(t, "cutting", ofCutRecords, whole)
			for _, behind := range [][]byte{{23}, {22, 0}, {21, 0, 5, 1, 2, 3}, {20}, {22, 0, 0, 1}, {23, 9, 18, 4, 5, 6}} {
				checkApart(t, "cutting with more behind", ofCutRecords, slices.Concat(whole, behind))
			}
		}
	}
}

func TestRecordNonceMemory(t *testing.T) {
	r := rand.New(rand.NewSource(332))
	for _, number := range append(recordNumbers(), outsideNumbers()...) {
		for _, n := range []int{0, 11, 12, 13} {
			checkApart(t, "nonce", ofRecordNonce(number), randomList(r, n))
		}
	}
}

func TestProtectMemory(t *testing.T) {
	r := rand.New(rand.NewSource(333))
	for range 60 {
		p := randomProtection(r)
		checkApart(t, "protect", ofProtect(p), p.keys.Key, p.keys.Iv, p.data)
	}
	for _, p := range refusals(randomProtection(r)) {
		if len(p.data) < 3000 {
			checkMemory(t, "protect, refused", ofProtect(p), p.keys.Key, p.keys.Iv, p.data)
		}
	}
}

func TestUnprotectMemory(t *testing.T) {
	r := rand.New(rand.NewSource(334))
	for range 60 {
		p := randomProtection(r)
		body := p.record()[3:]
		checkApart(t, "unprotect", ofUnprotect(p.number), p.keys.Key, p.keys.Iv, body)
		checkMemory(t, "unprotect, not opened", ofUnprotect(p.number), p.keys.Key, p.keys.Iv, withBit(body, 1))
		checkMemory(t, "unprotect, other keys", ofUnprotect(p.number), p.keys.Key[:31], p.keys.Iv, body)
		checkMemory(t, "unprotect, a short body", ofUnprotect(p.number), p.keys.Key, p.keys.Iv, body[:16])
	}
	for _, one := range fewInsides() {
		keys := randomKeys(r)
		checkApart(t, "unprotect, "+one.what, ofUnprotect(9), keys.Key, keys.Iv, sealedInside(keys, 9, one.bytes))
	}
}

func TestPiecesMemory(t *testing.T) {
	r := rand.New(rand.NewSource(335))
	for _, n := range []int{0, 1, 100, 2047, 2048, 2049, 4096, 4097, 10000} {
		checkApart(t, "pieces", ofPieces, randomList(r, n))
	}
}

// Key, iv and data may lie in one room, each in the other.
func TestRecordsOfOneRoom(t *testing.T) {
	r := rand.New(rand.NewSource(336))
	room := randomList(r, 300)
	before := bytes.Clone(room)
	for at := range 200 {
		p := protection{impl.Keys{Key: room[at : at+32], Iv: room[at+10 : at+22]}, int64(at), impl.RecordData, room[at : at+90], int64(at % 20)}
		checkProtected(t, "one room", p)
		checkOpenedRecord(t, "one room", p.keys, p.number, p.record()[3:], impl.Opened{Kind: p.kind, Data: p.data})
		checkList(t, "room", room, before)
	}
}

// The lists of records and of pieces are apart as well, those of two answers and those of one.
func TestCutRecordsApart(t *testing.T) {
	r := rand.New(rand.NewSource(337))
	for range 40 {
		records := randomRecords(r, 1+r.Intn(6), 50)
		g := guard(append(encodeRecords(records), 22, 0, 9, 1))
		first, second := impl.CutRecords(g.list), impl.CutRecords(g.list)
		for i := range first.Records {
			spoil(first.Records[i].Body)
		}
		for i := range first.Records[:cap(first.Records)] {
			first.Records[:cap(first.Records)][i] = impl.Record{Kind: -1}
		}
		spoil(first.Rest)
		rest := []byte{22, 0, 9, 1}
		if !sameRecords(second.Records, records) || !bytes.Equal(second.Rest, rest) || g.changed() {
			t.Errorf("two answers share memory")
		}
		longer := append(second.Records, impl.Record{Kind: -2})
		if third := impl.CutRecords(g.list); len(longer) != len(records)+1 || !sameRecords(third.Records, records) || !bytes.Equal(third.Rest, rest) {
			t.Errorf("asked again, the records are others")
		}
	}
}

func TestPiecesApart(t *testing.T) {
	r := rand.New(rand.NewSource(338))
	for _, n := range []int{1, 2048, 2049, 9000} {
		data := randomList(r, n)
		g := guard(data)
		first, second := impl.Pieces(g.list), impl.Pieces(g.list)
		for i := range first {
			spoil(first[i].Data)
		}
		for i := range first[:cap(first)] {
			first[:cap(first)][i] = impl.Blob{Data: []byte("spoilt")}
		}
		if !slices.EqualFunc(second, impl.Pieces(data), sameBlob) || g.changed() {
			t.Errorf("two answers of %d bytes share memory", n)
		}
	}
}
