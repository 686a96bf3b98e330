package tests

import (
	"bytes"
	"crypto/sha256"
	"math"
	"math/rand"
	"slices"
	"testing"

	"loop.example/g00004/impl"
)

// What chapter 15 says of sealing a record, and promise 21.

// recordFixed is how many bytes of a sealed record are neither data nor padding: the head, the kind and the sum.
const recordFixed = 3 + 1 + 16

func checkProtected(t *testing.T, what string, p protection) {
	t.Helper()
	got, want := p.record(), p.told()
	if !bytes.Equal(got, want) {
		t.Errorf("%s: keys %x and %x, number %d, kind %d, %d bytes %x, pad %d: got %d bytes %x, want %d bytes %x", what, p.keys.Key, p.keys.Iv,
			p.number, p.kind, len(p.data), beginning(p.data), p.pad, len(got), beginning(got), len(want), beginning(want))
	}
}

func checkOpenedRecord(t *testing.T, what string, keys impl.Keys, number int64, body []byte, want impl.Opened) {
	t.Helper()
	got := impl.Unprotect(keys, number, body)
	if !sameOpened(got, want) {
		t.Errorf("%s: keys %x and %x, number %d, body of %d bytes %x: got %d, kind %d, %d bytes %x, want %d, kind %d, %d bytes %x", what, keys.Key, keys.Iv,
			number, len(body), beginning(body), got.Code, got.Kind, len(got.Data), beginning(got.Data), want.Code, want.Kind, len(want.Data), beginning(want.Data))
	}
}

// Made by another program.
func TestProtectKnownAnswers(t *testing.T) {
	for _, known := range []struct {
		protection
		want string
	}{
		{protection{impl.Keys{Key: upwards(32), Iv: upwards(12)}, 258, 22, []byte("hello"), 3}, "170019461fd388c5ffd970aedf97c7f6f3b61f2d4fbe14aae71f3cbb"},
		{protection{impl.Keys{Key: full(32), Iv: full(12)}, impl.MaxSequence, 21, []byte{0}, 0}, "1700127f2ac18d75abf2516e0f7532ffbc9c93e5e4"},
		{protection{impl.Keys{Key: make([]byte, 32), Iv: make([]byte, 12)}, 65536, 23, []byte("some data with zeros\x00\x00"), 7},
			"17002eab41155af653d74bf207e5a2a81ab23f4983edb7ec979fbaacbf4a45b06689de75042e8c8af77f8a618033293c5f"},
		{protection{impl.Keys{Key: upwards(32), Iv: full(12)}, 1, 23, nil, 1}, "170012bd536dd51be00f42420259f3126b987641dc"},
	} {
		record := fromHex(t, known.want)
		checkList(t, "record", known.record(), record, known.data)
		checkOpenedRecord(t, "known", known.keys, known.number, record[3:], impl.Opened{Kind: known.kind, Data: known.data})
	}
	greatest := protection{impl.Keys{Key: upwards(32), Iv: upwards(12)}, 256, 22, upwards(2048), 256}.record()
	sum := sha256.Sum256(greatest)
	checkList(t, "sum of the greatest record", sum[:], fromHex(t, "34dbd10b8bb4e9b6653a7705753c286d90ba7201b2005bcfa19c7f2ef57cb2cf"))
}

func TestProtectTold(t *testing.T) {
	r := rand.New(rand.NewSource(309))
	for range 150 {
		checkProtected(t, "any", randomProtection(r))
	}
	for n := range 70 {
		checkProtected(t, "short data", protection{randomKeys(r), int64(n), 23, randomList(r, n), int64(n % 5)})
		checkProtected(t, "some padding", protection{randomKeys(r), int64(n), 22, randomList(r, 1+n%5), int64(n)})
	}
	for _, number := range recordNumbers() {
		for _, kind := range recordKinds() {
			checkProtected(t, "a number", protection{randomKeys(r), number, kind, []byte("data"), 1})
		}
	}
}

// By the program's own calls: the whole is a record of the kind 23 around what Seal makes.
func TestProtectParts(t *testing.T) {
	r := rand.New(rand.NewSource(310))
	for range 400 {
		p := randomProtection(r)
		inside := insideOf(p.data, byte(p.kind), int(p.pad))
		body := impl.Seal(p.keys.Key, impl.RecordNonce(p.keys.Iv, p.number), toldHead(23, len(inside)+16), inside)
		checkList(t, "record", p.record(), impl.EncodeRecord(impl.Record{Kind: impl.RecordData, Body: body}), p.keys.Key, p.keys.Iv)
	}
}

// The library's nonces are made of a number in the same way, so its recipient opens a row of records.
func TestProtectLibrary(t *testing.T) {
	r := rand.New(rand.NewSource(311))
	recipient, key, first := libraryRecipient(t, r)
	for number := range int64(600) {
		p := randomProtection(r)
		p.keys, p.number = impl.Keys{Key: key, Iv: first}, number
		record := p.record()
		opened, err := recipient.Open(record[:3], record[3:])
		if err != nil {
			t.Fatalf("number %d, %d bytes: %v", number, len(p.data), err)
		}
		checkList(t, "opened by the library", opened, insideOf(p.data, byte(p.kind), int(p.pad)))
	}
}

func (p protection) fits() bool {
	return len(p.data) > 0 || p.kind == impl.RecordData
}

// protections have all kinds, data and paddings with each other, and each number with each key.
func protections(r *rand.Rand) []protection {
	var all []protection
	keys, numbers := someKeys(r), recordNumbers()
	for _, kind := range recordKinds() {
		for _, data := range append(recordData(r), nil) {
			for _, pad := range recordPads() {
				all = append(all, protection{keys[r.Intn(len(keys))], numbers[r.Intn(len(numbers))], kind, data, pad})
			}
		}
		for _, k := range keys {
			for _, number := range numbers {
				all = append(all, protection{k, number, kind, randomList(r, 1+r.Intn(60)), r.Int63n(40)})
			}
		}
	}
	return slices.DeleteFunc(all, func(p protection) bool { return !p.fits() })
}

func TestPromise21UnprotectOfProtect(t *testing.T) {
	r := rand.New(rand.NewSource(312))
	for _, p := range protections(r) {
		record := p.record()
		if len(record) == 0 {
			t.Fatalf("number %d, kind %d, %d bytes, pad %d: no record", p.number, p.kind, len(p.data), p.pad)
		}
		checkOpenedRecord(t, "with the same", p.keys, p.number, record[3:], impl.Opened{Kind: p.kind, Data: p.data})
		cut := impl.CutRecords(record)
		if cut.Code != 0 || len(cut.Rest) != 0 || !sameRecords(cut.Records, []impl.Record{{Kind: impl.RecordData, Body: record[3:]}}) {
			t.Errorf("number %d, kind %d, %d bytes, pad %d: cut as %d, %d records", p.number, p.kind, len(p.data), p.pad, cut.Code, len(cut.Records))
		}
	}
}

func TestPromise21EverySize(t *testing.T) {
	r := rand.New(rand.NewSource(313))
	data := randomList(r, impl.MaxPlain)
	for n := range impl.MaxPlain + 1 {
		p := protection{randomKeys(r), int64(n), impl.RecordData, data[:n], int64(n % (impl.MaxPad + 1))}
		record := p.record()
		if len(record) != n+int(p.pad)+recordFixed {
			t.Fatalf("%d bytes, pad %d: a record of %d", n, p.pad, len(record))
		}
		checkOpenedRecord(t, "a size", p.keys, p.number, record[3:], impl.Opened{Kind: p.kind, Data: p.data})
	}
}

func TestPromise21NothingWithAnother(t *testing.T) {
	r := rand.New(rand.NewSource(314))
	for _, p := range protections(r) {
		body := p.record()[3:]
		for _, number := range []int64{p.number ^ 1, p.number ^ 256, p.number ^ 1<<31, impl.MaxSequence - p.number, r.Int63n(impl.MaxSequence + 1)} {
			if number != p.number {
				checkOpenedRecord(t, "with another number", p.keys, number, body, impl.Opened{Code: 2})
			}
		}
		other := impl.Keys{Key: withBit(p.keys.Key, r.Intn(256)), Iv: p.keys.Iv}
		checkOpenedRecord(t, "with another key", other, p.number, body, impl.Opened{Code: 2})
		other = impl.Keys{Key: p.keys.Key, Iv: withBit(p.keys.Iv, r.Intn(96))}
		checkOpenedRecord(t, "with another iv", other, p.number, body, impl.Opened{Code: 2})
	}
}

// All numbers with each other, all bits of a key and of an iv.
func TestPromise21EachOtherNumberAndBit(t *testing.T) {
	r := rand.New(rand.NewSource(315))
	keys := randomKeys(r)
	for _, number := range recordNumbers() {
		p := protection{keys, number, impl.RecordPlain, []byte("one"), 2}
		body := p.record()[3:]
		for _, other := range recordNumbers() {
			want := impl.Opened{Code: 2}
			if other == number {
				want = impl.Opened{Kind: p.kind, Data: p.data}
			}
			checkOpenedRecord(t, "numbers", keys, other, body, want)
		}
		for bit := range 256 {
			checkOpenedRecord(t, "a bit of the key", impl.Keys{Key: withBit(keys.Key, bit), Iv: keys.Iv}, number, body, impl.Opened{Code: 2})
		}
		for bit := range 96 {
			checkOpenedRecord(t, "a bit of the iv", impl.Keys{Key: keys.Key, Iv: withBit(keys.Iv, bit)}, number, body, impl.Opened{Code: 2})
		}
	}
}

// However a sum of data and padding is parted, and whatever the kind, the key and the number are, a length tells it alone.
func TestPromise21LengthTellsTheSum(t *testing.T) {
	r := rand.New(rand.NewSource(316))
	for _, p := range protections(r) {
		if got, want := len(p.record()), len(p.data)+int(p.pad)+recordFixed; got != want {
			t.Errorf("number %d, kind %d, %d bytes, pad %d: a record of %d, want %d", p.number, p.kind, len(p.data), p.pad, got, want)
		}
	}
	for sum := 1; sum <= impl.MaxPad; sum += 15 {
		for pad := range sum {
			p := protection{randomKeys(r), r.Int63n(impl.MaxSequence), recordKinds()[pad%3], randomList(r, sum-pad), int64(pad)}
			record := p.record()
			if len(record) != sum+recordFixed || !bytes.Equal(record[:3], toldHead(23, sum+17)) {
				t.Errorf("%d bytes and pad %d: a record of %d, %x", sum-pad, pad, len(record), beginning(record))
			}
		}
	}
}

// refusals change one thing each, so that Protect refuses it.
func refusals(p protection) []protection {
	var all []protection
	add := func(change func(p *protection)) {
		changed := p
		change(&changed)
		all = append(all, changed)
	}
	for _, n := range []int{0, 1, 12, 31, 33, 64, 256 + 32} {
		add(func(p *protection) { p.keys.Key = upwards(n) })
	}
	for _, n := range []int{0, 1, 8, 11, 13, 16, 32, 256 + 12} {
		add(func(p *protection) { p.keys.Iv = upwards(n) })
	}
	for _, number := range outsideNumbers() {
		add(func(p *protection) { p.number = number })
	}
	for _, kind := range noRecordKinds() {
		add(func(p *protection) { p.kind = kind })
	}
	for _, n := range []int{impl.MaxPlain + 1, impl.MaxPlain + 2, 2304, 2305, 2321, 4096, 65536, 65537, 65536 + 100} {
		add(func(p *protection) { p.data = upwards(n) })
	}
	for _, kind := range []int64{impl.RecordAlert, impl.RecordPlain} {
		add(func(p *protection) { p.kind, p.data = kind, nil })
		add(func(p *protection) { p.kind, p.data = kind, []byte{} })
	}
	for _, pad := range []int64{-1, -2, -256, math.MinInt64, impl.MaxPad + 1, impl.MaxPad + 2, 512, 65536, 1<<32 + 1, math.MaxInt64} {
		add(func(p *protection) { p.pad = pad })
	}
	return all
}

func TestProtectRefuses(t *testing.T) {
	r := rand.New(rand.NewSource(317))
	for range 30 {
		for _, p := range refusals(randomProtection(r)) {
			if !p.refused() {
				t.Fatalf("number %d, kind %d, %d bytes, pad %d counts as one that is not refused", p.number, p.kind, len(p.data), p.pad)
			}
			checkProtected(t, "refused", p)
		}
	}
}

func TestProtectRefusesTwice(t *testing.T) {
	r := rand.New(rand.NewSource(318))
	for _, p := range refusals(randomProtection(r)) {
		for _, q := range refusals(p) {
			if got := q.record(); q.refused() && len(got) != 0 {
				t.Errorf("number %d, kind %d, %d bytes, pad %d: got %d bytes", q.number, q.kind, len(q.data), q.pad, len(got))
			}
		}
	}
}

// The last ones within each limit are not refused.
func TestProtectEnds(t *testing.T) {
	keys := impl.Keys{Key: upwards(32), Iv: upwards(12)}
	for _, number := range []int64{0, impl.MaxSequence} {
		for _, kind := range recordKinds() {
			for _, n := range []int{0, 1, impl.MaxPlain} {
				for _, pad := range []int64{0, impl.MaxPad} {
					p := protection{keys, number, kind, upwards(n), pad}
					if p.refused() == p.fits() {
						t.Fatalf("kind %d with %d bytes", kind, n)
					}
					checkProtected(t, "an end", p)
				}
			}
		}
	}
}

// Data in pieces, each sealed with the next number, come out as the data again, in their order alone.
func TestPromise21And22DataInPieces(t *testing.T) {
	r := rand.New(rand.NewSource(319))
	for _, n := range []int{0, 1, 2047, 2048, 2049, 4096, 4097, 10000, 40000} {
		keys, data := randomKeys(r), randomList(r, n)
		first := r.Int63n(300)
		var sent []byte
		for i, piece := range impl.Pieces(data) {
			sent = append(sent, impl.Protect(keys, first+int64(i), impl.RecordData, piece.Data, r.Int63n(impl.MaxPad+1))...)
		}
		cut := impl.CutRecords(sent)
		var read []byte
		for i, record := range cut.Records {
			opened := impl.Unprotect(keys, first+int64(i), record.Body)
			if record.Kind != impl.RecordData || opened.Code != 0 || opened.Kind != impl.RecordData {
				t.Errorf("record %d of %d bytes: kind %d, opened as %d, kind %d", i, n, record.Kind, opened.Code, opened.Kind)
			}
			read = append(read, opened.Data...)
			checkOpenedRecord(t, "the next one", keys, first+int64(i)+1, record.Body, impl.Opened{Code: 2})
		}
		if cut.Code != 0 || len(cut.Rest) != 0 || !bytes.Equal(read, data) {
			t.Errorf("%d bytes: code %d, rest of %d, %d bytes read", n, cut.Code, len(cut.Rest), len(read))
		}
	}
}
