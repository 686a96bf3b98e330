package tests

import (
	"bytes"
	"math/rand"
	"slices"
	"strings"
	"testing"

	"loop.example/g00004/impl"
)

// What chapter 13 says of messages as bytes, and the first half of promise 20.

// checkMessageAt holds bytes to what they are told as; what is decoded, encoded again, is the very bytes. It tells the code.
func checkMessageAt(t *testing.T, what string, b []byte, at int64) int64 {
	t.Helper()
	got, want := impl.DecodeMessage(b, at), toldMessageAt(b, at)
	if got.Code != want.Code || got.Next != want.Next || !sameMessage(got.Message, want.Message) {
		t.Errorf("%s: %d bytes %x at %d: got %d, %d, %s, want %d, %d, %s", what, len(b), beginning(b), at, got.Code, got.Next, messageInShort(got.Message),
			want.Code, want.Next, messageInShort(want.Message))
		return -1
	}
	if got.Code == 0 {
		checkList(t, what+", encoded again", impl.EncodeMessage(got.Message), b[at:got.Next])
	}
	return got.Code
}

// checkNoMessage asks for the code, and for all else to be zero.
func checkNoMessage(t *testing.T, what string, b []byte, at int64, code int64) {
	t.Helper()
	got := impl.DecodeMessage(b, at)
	if got.Code != code || got.Next != 0 || !sameMessage(got.Message, impl.Message{}) {
		t.Errorf("%s: %d bytes %x at %d: got %d, %d, %s, want %d", what, len(b), beginning(b), at, got.Code, got.Next, messageInShort(got.Message), code)
	}
	if told := toldMessageAt(b, at).Code; told != code {
		t.Errorf("%s: %d bytes %x at %d: told %d, want %d", what, len(b), beginning(b), at, told, code)
	}
}

// checkMessageBack also asks for the message with other bytes ahead of it and behind it.
func checkMessageBack(t *testing.T, m impl.Message) {
	t.Helper()
	form := impl.EncodeMessage(m)
	checkList(t, "encoded", form, toldMessageForm(m))
	for _, around := range [][2][]byte{{nil, nil}, {{1}, {0}}, {form, form}, {upwards(300), full(3)}} {
		at := int64(len(around[0]))
		back := impl.DecodeMessage(slices.Concat(around[0], form, around[1]), at)
		if back.Code != 0 || back.Next != at+int64(len(form)) || !sameMessage(back.Message, m) {
			t.Errorf("%s comes back as %d, %d, %s", messageInShort(m), back.Code, back.Next, messageInShort(back.Message))
		}
	}
}

func TestPromise20Back(t *testing.T) {
	r := rand.New(rand.NewSource(235))
	for _, m := range manyMessages(r, 4500) {
		checkMessageBack(t, m)
	}
}

// Every number of protocols and certificates, and every byte of a version, of a flag and of an age.
func TestPromise20BackEveryMake(t *testing.T) {
	hello, answer, ticket := plainMessages()[0], plainMessages()[1], plainMessages()[2]
	for value := range int64(256) {
		hello.Version, answer.Version, answer.Resumed = value, value, value%2 == 0
		hello.Age, hello.Early, ticket.Age, ticket.Early = value<<24|255-value, value%2, value<<16|value, value<<8|255-value
		hello.Protocols = longProtocols(int(value) % 9)
		for _, m := range []impl.Message{hello, answer, ticket} {
			checkMessageBack(t, m)
		}
	}
	for n := 1; n <= 400; n++ {
		hello.Ticket, ticket.Ticket = upwards(n), turned(upwards(n))
		checkMessageBack(t, hello)
		checkMessageBack(t, ticket)
	}
	for n := 1; n <= 128; n++ {
		hello.Host = longName(n)
		checkMessageBack(t, hello)
	}
	for n := 1; n <= 32; n++ {
		extras := impl.Message{Kind: impl.KindExtras, Protocols: []string{string(full(n))}, Early: int64(n % 2)}
		checkMessageBack(t, extras)
		extras.Protocols = nil
		checkMessageBack(t, extras)
	}
	for n := 1; n <= 2000; n += 1 + n/40 {
		for count := 1; count <= 4; count++ {
			checkMessageBack(t, impl.Message{Kind: impl.KindCerts, Certs: blobsOf(slices.Repeat([]int{n}, count)...)})
		}
	}
	for _, early := range []int64{0, 1} {
		checkMessageBack(t, impl.Message{Kind: impl.KindUpdate, Early: early})
	}
}

func TestPromise20BackAfterChanges(t *testing.T) {
	r := rand.New(rand.NewSource(236))
	for _, base := range plainMessages() {
		changes := slices.DeleteFunc(messageChanges(base), func(one messageChange) bool { return one.rule != 0 })
		for range min(400, 100*len(changes)) {
			m := base
			for range 1 + r.Intn(4) {
				m = changes[r.Intn(len(changes))].of(m)
			}
			checkMessageBack(t, m)
		}
	}
}

// Two messages have the same bytes only if they are the same.
func TestPromise20OneFormEach(t *testing.T) {
	r := rand.New(rand.NewSource(237))
	messages := manyMessages(r, 400)
	forms := map[string]impl.Message{}
	for _, m := range messages {
		form := string(impl.EncodeMessage(m))
		if other, known := forms[form]; known && !sameMessage(m, other) {
			t.Errorf("%s and %s have the same bytes", messageInShort(m), messageInShort(other))
		}
		forms[form] = m
	}
	for _, base := range plainMessages() {
		for _, one := range messageChanges(base) {
			if other := one.of(base); one.rule == 0 && !sameMessage(other, base) && bytes.Equal(impl.EncodeMessage(other), impl.EncodeMessage(base)) {
				t.Errorf("%s and %s have the same bytes", messageInShort(base), messageInShort(other))
			}
		}
	}
}

func TestMessageFormExamples(t *testing.T) {
	zeros := make([]byte, 32)
	for _, row := range []struct {
		m    impl.Message
		form []byte
	}{
		{impl.Message{Kind: 1, Version: 2, Random: full(32), Share: zeros, Host: "h", Protocols: []string{"ab", "c"}, Ticket: []byte{6, 7}, Age: 1 << 24, Early: 1, Binder: full(32)},
			slices.Concat([]byte{1, 0, 0, 114, 2}, full(32), zeros, []byte{1, 'h', 2, 2, 'a', 'b', 1, 'c', 0, 2, 6, 7, 1, 0, 0, 0, 1}, full(32))},
		{impl.Message{Kind: 1, Random: zeros, Share: full(32), Host: "h"}, slices.Concat([]byte{1, 0, 0, 70, 0}, zeros, full(32), []byte{1, 'h', 0, 0, 0})},
		{impl.Message{Kind: 2, Version: 255, Random: zeros, Share: full(32)}, slices.Concat([]byte{2, 0, 0, 66, 255}, zeros, full(32), []byte{0})},
		{impl.Message{Kind: 2, Random: full(32), Share: zeros, Resumed: true}, slices.Concat([]byte{2, 0, 0, 66, 0}, full(32), zeros, []byte{1})},
		{impl.Message{Kind: 4, Age: 0x01020304, Early: 0xfffefdfc, Random: zeros, Ticket: []byte{1, 2, 3}},
			slices.Concat([]byte{4, 0, 0, 45, 1, 2, 3, 4, 255, 254, 253, 252}, zeros, []byte{0, 3, 1, 2, 3})},
		{impl.Message{Kind: 5}, []byte{5, 0, 0, 0}},
		{impl.Message{Kind: 8}, []byte{8, 0, 0, 2, 0, 0}},
		{impl.Message{Kind: 8, Protocols: []string{"xyz"}, Early: 1}, []byte{8, 0, 0, 6, 1, 3, 'x', 'y', 'z', 1}},
		{impl.Message{Kind: 11, Certs: []impl.Blob{{Data: []byte{9}}, {Data: make([]byte, 258)}}}, slices.Concat([]byte{11, 0, 1, 8, 2, 0, 1, 9, 1, 2}, make([]byte, 258))},
		{impl.Message{Kind: 15, Proof: upwards(64)}, slices.Concat([]byte{15, 0, 0, 64}, upwards(64))},
		{impl.Message{Kind: 20, Proof: upwards(32)}, slices.Concat([]byte{20, 0, 0, 32}, upwards(32))},
		{impl.Message{Kind: 24}, []byte{24, 0, 0, 1, 0}},
		{impl.Message{Kind: 24, Early: 1}, []byte{24, 0, 0, 1, 1}},
	} {
		checkList(t, "example", impl.EncodeMessage(row.m), row.form)
		checkMessageBack(t, row.m)
	}
}

// The greatest body of each kind; none has more than MaxBody bytes.
func TestMessageGreatestBodies(t *testing.T) {
	sizes := map[int64]int{1: 898, 2: 66, 4: 442, 5: 0, 8: 35, 11: 8009, 15: 64, 20: 32, 24: 1}
	for _, m := range greatestMessages() {
		form := impl.EncodeMessage(m)
		if len(form) != 4+sizes[m.Kind] || len(form) > 4+impl.MaxBody {
			t.Errorf("%s has %d bytes, not %d", messageInShort(m), len(form), 4+sizes[m.Kind])
		}
		checkMessageBack(t, m)
	}
}

func TestDecodeMessageOutside(t *testing.T) {
	for _, m := range append(plainMessages(), greatestMessages()...) {
		form := toldMessageForm(m)
		for _, at := range outsidePlaces(len(form)) {
			if at != int64(len(form)) {
				checkNoMessage(t, "no place", form, at, 2)
			}
		}
		checkNoMessage(t, "the end", form, int64(len(form)), 1)
	}
	for _, at := range append(outsidePlaces(0), outsidePlaces(5)...) {
		want := int64(2)
		if at == 0 {
			want = 1
		}
		checkNoMessage(t, "no bytes", nil, at, want)
		checkNoMessage(t, "no bytes", []byte{}, at, want)
	}
}

func TestDecodeMessageAtEveryPlace(t *testing.T) {
	r := rand.New(rand.NewSource(238))
	for range 60 {
		var b []byte
		for range 3 {
			b = append(b, toldMessageForm(randomMessage(r, toldKinds()[r.Intn(9)]))...)
		}
		b = b[:min(len(b), 1500)]
		for at := range len(b) + 2 {
			checkMessageAt(t, "at any place", b, int64(at)-1)
		}
	}
}

// Every beginning of a message is not whole yet, whatever its kind.
func TestDecodeMessageCutShort(t *testing.T) {
	r := rand.New(rand.NewSource(239))
	for _, m := range manyMessages(r, 45) {
		form := toldMessageForm(m)
		for cut := range form {
			checkNoMessage(t, "cut short", form[:cut], 0, 1)
		}
	}
}

// The kind counts as soon as it is there; the length counts as soon as its three bytes are.
func TestDecodeMessageFewBytes(t *testing.T) {
	for kind := range 256 {
		want := int64(2)
		if slices.Contains(toldKinds(), int64(kind)) {
			want = 1
		}
		for _, rest := range [][]byte{nil, {0}, {255}, {0, 0}, {255, 255}, {0, 32}} {
			checkNoMessage(t, "a few bytes", append([]byte{byte(kind)}, rest...), 0, want)
		}
		for _, length := range []int{8193, 8194, 16384, 65535, 65536, 65536 + 8192, 1 << 23, 1<<24 - 1} {
			checkNoMessage(t, "too long", framed(byte(kind), length, nil), 0, 2)
			checkNoMessage(t, "too long", framed(byte(kind), length, make([]byte, 66)), 0, 2)
		}
		for _, length := range []int{1, 255, 256, 4096, 8191, 8192} {
			checkNoMessage(t, "long", framed(byte(kind), length, nil), 0, want)
			checkNoMessage(t, "long", framed(byte(kind), length, make([]byte, length-1)), 0, want)
		}
	}
	for _, kind := range toldKinds() {
		for _, length := range []int{8010, 8191, 8192} {
			checkNoMessage(t, "a body of zeros", framed(byte(kind), length, make([]byte, length)), 0, 3)
			checkNoMessage(t, "a body of ones", framed(byte(kind), length, bytes.Repeat([]byte{1}, length+3)), 0, 3)
		}
		checkNoMessage(t, "a body too long that is there", framed(byte(kind), 8193, make([]byte, 8193)), 0, 2)
	}
	for n := range 5 {
		for _, b := range allListsOf(n, 0, 1, 5, 24, 32, 255) {
			checkMessageAt(t, "a few bytes", b, 0)
		}
	}
}

// A body that ends too early or goes on, with its length right.
func TestDecodeMessageBodyShortOrLong(t *testing.T) {
	r := rand.New(rand.NewSource(240))
	for _, m := range manyMessages(r, 45) {
		body := toldBody(m)
		for cut := range body {
			checkMessageAt(t, "too short", framed(byte(m.Kind), cut, body[:cut]), 0)
			if cut > 0 && cut < len(body) && m.Kind != 11 {
				checkNoMessage(t, "too short", framed(byte(m.Kind), cut, body[:cut]), 0, 3)
			}
		}
		if len(body) > 0 {
			checkNoMessage(t, "too short by one", framed(byte(m.Kind), len(body)-1, body[:len(body)-1]), 0, 3)
		}
		for _, more := range [][]byte{{0}, {1}, {255}, {0, 0}, full(32), toldMessageForm(m)} {
			if long := slices.Concat(body, more); len(long) <= impl.MaxBody {
				checkNoMessage(t, "goes on", framed(byte(m.Kind), len(long), long), 0, 3)
			}
		}
	}
}

// One byte more or less at any place, with the length as it was and with the length of what is there.
func TestPromise20ByteMoreOrLess(t *testing.T) {
	r := rand.New(rand.NewSource(241))
	for _, m := range slices.Concat(plainMessages(), manyMessages(r, 27)[19:]) {
		form := toldMessageForm(m)
		for at := range len(form) + 1 {
			for _, b := range []byte{0, 1, 255, byte(r.Intn(256))} {
				checkMessageAt(t, "a byte more", slices.Insert(bytes.Clone(form), at, b), 0)
			}
			if at < len(form) {
				checkMessageAt(t, "a byte less", slices.Delete(bytes.Clone(form), at, at+1), 0)
			}
		}
		body := toldBody(m)
		for at := range len(body) + 1 {
			for _, b := range []byte{0, 1, 255, byte(r.Intn(256))} {
				checkMessageAt(t, "a byte more inside", framed(byte(m.Kind), len(body)+1, slices.Insert(bytes.Clone(body), at, b)), 0)
			}
			if at < len(body) {
				checkMessageAt(t, "a byte less inside", framed(byte(m.Kind), len(body)-1, slices.Delete(bytes.Clone(body), at, at+1)), 0)
			}
		}
	}
}

// Every value of every byte: some are other messages, and those in their one form.
func TestPromise20EveryValueOfEveryByte(t *testing.T) {
	codes := map[int64]int{}
	for _, m := range plainMessages() {
		form := toldMessageForm(m)
		for at := range form {
			for value := range 256 {
				spoilt := bytes.Clone(form)
				spoilt[at] = byte(value)
				codes[checkMessageAt(t, "spoilt", spoilt, 0)]++
				codes[checkMessageAt(t, "spoilt, with more behind", append(spoilt, form...), 0)]++
			}
		}
	}
	for code := range int64(4) {
		if codes[code] < 500 {
			t.Errorf("the code %d came %d times", code, codes[code])
		}
	}
}

func TestPromise20SpoiltInManyPlaces(t *testing.T) {
	r := rand.New(rand.NewSource(242))
	codes := map[int64]int{}
	for i := range 9000 {
		spoilt := toldMessageForm(randomMessage(r, toldKinds()[i%9]))
		for range 1 + r.Intn(3) {
			spoilt[r.Intn(len(spoilt))] = byte(r.Intn(256))
		}
		codes[checkMessageAt(t, "spoilt", spoilt, 0)]++
	}
	for code := range int64(4) {
		if codes[code] < 200 {
			t.Errorf("the code %d came %d times", code, codes[code])
		}
	}
}

// A byte for a yes or no has two values.
func TestDecodeMessageFlags(t *testing.T) {
	all := plainMessages()
	for _, row := range []struct {
		m    impl.Message
		back int
	}{{all[0], 33}, {all[1], 1}, {all[4], 1}, {all[8], 1}} {
		form := toldMessageForm(row.m)
		for value := range 256 {
			form[len(form)-row.back] = byte(value)
			if value < 2 {
				checkMessageAt(t, "a flag", form, 0)
				if got := impl.DecodeMessage(form, 0); got.Code != 0 || got.Message.Resumed != (value == 1 && row.m.Kind == 2) || row.m.Kind != 2 && got.Message.Early != int64(value) {
					t.Errorf("with the flag %d: %s", value, messageInShort(got.Message))
				}
			} else {
				checkNoMessage(t, "no flag", form, 0, 3)
			}
		}
	}
}

// fitsItsForm tells whether each length fits into its bytes, so that the bytes tell the message again.
func fitsItsForm(m impl.Message) bool {
	long := func(protocol string) bool { return len(protocol) > 255 }
	wide := func(cert impl.Blob) bool { return len(cert.Data) > 65535 }
	return len(m.Host) < 256 && len(m.Protocols) < 256 && !slices.ContainsFunc(m.Protocols, long) && len(m.Ticket) < 65536 &&
		len(m.Certs) < 256 && !slices.ContainsFunc(m.Certs, wide)
}

// What breaks a rule is no message, even where its bytes could be told.
func TestDecodeMessageRulesBroken(t *testing.T) {
	for _, m := range plainMessages() {
		broken := map[int64]int{}
		for _, one := range ownChanges(m) {
			changed := one.of(m)
			form := toldMessageForm(changed)
			code := checkMessageAt(t, "changed", form, 0)
			if one.rule == 0 && code != 0 {
				t.Errorf("%s has the code %d", messageInShort(changed), code)
			}
			if one.rule > 3 && fitsItsForm(changed) && len(form) <= 4+impl.MaxBody && (one.rule != 7 || one.field == "Early" && changed.Early == 2 && m.Kind != 4) {
				checkNoMessage(t, "a rule is broken", form, 0, 3)
				broken[one.rule]++
			}
		}
		for _, rule := range rulesOfKind(m) {
			// Numbers above the greatest one have no form, but where a byte has one for a flag.
			if rule > 3 && broken[rule] == 0 && m.Kind != 4 {
				t.Errorf("%s: rule %d is never broken", messageInShort(m), rule)
			}
		}
	}
}

// The body of one kind as that of another.
func TestDecodeMessageOtherKinds(t *testing.T) {
	r := rand.New(rand.NewSource(243))
	for _, m := range manyMessages(r, 90) {
		body := toldBody(m)
		for kind := range 256 {
			checkMessageAt(t, "another kind", framed(byte(kind), len(body), body), 0)
		}
	}
}

func TestDecodeMessageAnyBodies(t *testing.T) {
	r := rand.New(rand.NewSource(244))
	good := 0
	for range 30000 {
		kind := toldKinds()[r.Intn(9)]
		n := []int{0, 1, 2, 3, 32, 64, 66, r.Intn(80), r.Intn(500)}[r.Intn(9)]
		body := randomList(r, n)
		for i := range min(n, r.Intn(4)) {
			body[i] = byte(r.Intn(3))
		}
		if checkMessageAt(t, "any body", framed(byte(kind), n, body), 0) == 0 {
			good++
		}
	}
	if good < 500 {
		t.Errorf("%d of the bodies are messages", good)
	}
	for n := range 7 {
		for _, body := range allListsOf(n, 0, 1, 2, 97) {
			for _, kind := range []byte{8, 11, 24} {
				checkMessageAt(t, "a short body", framed(kind, n, body), 0)
			}
		}
	}
}

func TestHelloHead(t *testing.T) {
	r := rand.New(rand.NewSource(245))
	heads := 0
	for _, m := range manyMessages(r, 450) {
		form, head := toldMessageForm(m), impl.HelloHead(m)
		if m.Kind != 1 || len(m.Ticket) == 0 {
			checkList(t, "head of another message", head, nil)
			continue
		}
		heads++
		checkList(t, "head", head, form[:len(form)-32])
		checkList(t, "head and binder", slices.Concat(head, m.Binder), impl.EncodeMessage(m))
		// The binder is the one thing that plays no part.
		other := cloneMessage(m)
		other.Binder = randomList(r, 32)
		checkList(t, "head with another binder", impl.HelloHead(other), head)
	}
	if heads < 20 {
		t.Errorf("there are %d heads", heads)
	}
	hello := plainMessages()[0]
	for _, one := range messageChanges(hello) {
		if changed := one.of(hello); one.rule != 0 {
			checkList(t, "head of one with a fault", impl.HelloHead(changed), nil)
		}
	}
	hello.Kind = 4
	hello.Host = strings.Repeat("a", 64)
	checkList(t, "head of another kind with the fields of a Hello", impl.HelloHead(hello), nil)
}
