package tests

import (
	"bytes"
	"fmt"
	"math/rand"
	"slices"
	"strings"
	"testing"

	"loop.example/g00004/impl"
)

// Chapter 13 done another way: the body of each kind is a text of letters, one for each part, by which messages are
// written, read and held to their rules; and the messages that its tests ask for.

// The parts: V version, R random, S share, H host, P protocols, T ticket, A age, e early in a byte, E early in four, B
// binder, r resumed, C certificates, p a proof of 64 bytes, f one of 32; behind ? nothing stands if the ticket is empty.
func toldParts(kind int64) (string, bool) {
	parts := []struct {
		kind  int64
		parts string
	}{{1, "VRSHPT?AeB"}, {2, "VRSr"}, {4, "AERT"}, {5, ""}, {8, "Pe"}, {11, "C"}, {15, "p"}, {20, "f"}, {24, "e"}}
	for _, row := range parts {
		if row.kind == kind {
			return row.parts, true
		}
	}
	return "", false
}

func toldKinds() []int64 {
	return []int64{1, 2, 4, 5, 8, 11, 15, 20, 24}
}

// toldInBytes is big-endian of n bytes.
func toldInBytes(v int64, n int) []byte {
	return bigEndian(v)[8-n:]
}

func toldShortText(text string) []byte {
	return append([]byte{byte(len(text))}, text...)
}

func toldLongText(data []byte) []byte {
	return append([]byte{byte(len(data) >> 8), byte(len(data))}, data...)
}

func toldFlag(yes bool) []byte {
	if yes {
		return []byte{1}
	}
	return []byte{0}
}

func toldPart(m impl.Message, part rune) []byte {
	switch part {
	case 'V':
		return toldInBytes(m.Version, 1)
	case 'R':
		return m.Random
	case 'S':
		return m.Share
	case 'H':
		return toldShortText(m.Host)
	case 'P':
		all := []byte{byte(len(m.Protocols))}
		for _, protocol := range m.Protocols {
			all = append(all, toldShortText(protocol)...)
		}
		return all
	case 'T':
		return toldLongText(m.Ticket)
	case 'A':
		return toldInBytes(m.Age, 4)
	case 'e':
		return toldInBytes(m.Early, 1)
	case 'E':
		return toldInBytes(m.Early, 4)
	case 'B':
		return m.Binder
	case 'r':
		return toldFlag(m.Resumed)
	case 'C':
		all := []byte{byte(len(m.Certs))}
		for _, cert := range m.Certs {
			all = append(all, toldLongText(cert.Data)...)
		}
		return all
	}
	return m.Proof
}

// toldBody is written of messages too that break rules.
func toldBody(m impl.Message) []byte {
	parts, _ := toldParts(m.Kind)
	body := []byte{}
	for _, part := range parts {
		if part == '?' && len(m.Ticket) == 0 {
			break
		}
		if part != '?' {
			body = append(body, toldPart(m, part)...)
		}
	}
	return body
}

// framed puts any kind and any length ahead of a body.
func framed(kind byte, length int, body []byte) []byte {
	return slices.Concat([]byte{kind, byte(length >> 16), byte(length >> 8), byte(length)}, body)
}

func toldMessageForm(m impl.Message) []byte {
	body := toldBody(m)
	return framed(byte(m.Kind), len(body), body)
}

// toldOthers tells whether a field is not zero that these parts do not have.
func toldOthers(m impl.Message, parts string) bool {
	fields := []struct {
		parts string
		set   bool
	}{
		{"V", m.Version != 0}, {"R", len(m.Random) > 0}, {"S", len(m.Share) > 0}, {"H", m.Host != ""}, {"P", len(m.Protocols) > 0},
		{"T", len(m.Ticket) > 0}, {"A", m.Age != 0}, {"eE", m.Early != 0}, {"B", len(m.Binder) > 0}, {"r", m.Resumed},
		{"C", len(m.Certs) > 0}, {"pf", len(m.Proof) > 0},
	}
	for _, field := range fields {
		if field.set && !strings.ContainsAny(parts, field.parts) {
			return true
		}
	}
	return false
}

// toldSizesWrong is rule 3.
func toldSizesWrong(m impl.Message, parts string) bool {
	has := func(part string) bool { return strings.Contains(parts, part) }
	if has("B") && len(m.Ticket) == 0 && (len(m.Binder) > 0 || m.Age != 0 || m.Early != 0) {
		return true
	}
	return has("V") && (m.Version > 255 || m.Version < 0) || has("R") && len(m.Random) != 32 || has("S") && len(m.Share) != 32 ||
		has("B") && len(m.Ticket) > 0 && len(m.Binder) != 32 || has("p") && len(m.Proof) != 64 || has("f") && len(m.Proof) != 32
}

func toldProtocolsWrong(m impl.Message) bool {
	most := 8
	if m.Kind == 8 {
		most = 1
	}
	sorted := slices.Clone(m.Protocols)
	slices.Sort(sorted)
	for _, protocol := range sorted {
		if len(protocol) < 1 || len(protocol) > 32 {
			return true
		}
	}
	return len(sorted) > most || len(slices.Compact(sorted)) != len(m.Protocols)
}

func toldEarlyWrong(m impl.Message) bool {
	if m.Kind == 4 {
		return m.Early < 0 || m.Early > 4294967295
	}
	return m.Early != 0 && m.Early != 1
}

func toldCertsWrong(m impl.Message) bool {
	for _, cert := range m.Certs {
		if len(cert.Data) < 1 || len(cert.Data) >= 2001 {
			return true
		}
	}
	return len(m.Certs) < 1 || len(m.Certs) >= 5
}

// toldMessageRules tells of each rule whether it is broken; the first one stands at place 0.
func toldMessageRules(m impl.Message) []bool {
	parts, known := toldParts(m.Kind)
	has := func(part string) bool { return strings.Contains(parts, part) }
	return []bool{
		!known,
		toldOthers(m, parts),
		toldSizesWrong(m, parts),
		has("H") && toldNameFault(m.Host) != 0,
		has("P") && toldProtocolsWrong(m),
		has("T") && len(m.Ticket) >= 401 || has("E") && len(m.Ticket) < 1,
		has("A") && (m.Age < 0 || m.Age > 4294967295) || toldEarlyWrong(m),
		has("C") && toldCertsWrong(m),
	}
}

func toldMessageFault(m impl.Message) int64 {
	return int64(slices.Index(toldMessageRules(m), true) + 1)
}

// toldReader has no bytes left once more were asked for than there are.
type toldReader struct {
	rest []byte
	bad  bool
}

func (r *toldReader) bytes(n int64) []byte {
	if n > int64(len(r.rest)) {
		r.rest, r.bad = nil, true
		return nil
	}
	read := r.rest[:n]
	r.rest = r.rest[n:]
	return bytes.Clone(read)
}

func (r *toldReader) number(n int64) int64 {
	v := int64(0)
	for _, b := range r.bytes(n) {
		v = 256*v + int64(b)
	}
	return v
}

func (r *toldReader) part(m *impl.Message, part rune) {
	switch part {
	case 'V':
		m.Version = r.number(1)
	case 'R':
		m.Random = r.bytes(32)
	case 'S':
		m.Share = r.bytes(32)
	case 'H':
		m.Host = string(r.bytes(r.number(1)))
	case 'P':
		for count := r.number(1); count > 0 && !r.bad; count-- {
			m.Protocols = append(m.Protocols, string(r.bytes(r.number(1))))
		}
	case 'T':
		m.Ticket = r.bytes(r.number(2))
	case 'A':
		m.Age = r.number(4)
	case 'e':
		m.Early = r.number(1)
	case 'E':
		m.Early = r.number(4)
	case 'B':
		m.Binder = r.bytes(32)
	case 'r':
		flag := r.number(1)
		m.Resumed, r.bad = flag == 1, r.bad || flag > 1
	case 'C':
		for count := r.number(1); count > 0 && !r.bad; count-- {
			m.Certs = append(m.Certs, impl.Blob{Data: r.bytes(r.number(2))})
		}
	case 'p':
		m.Proof = r.bytes(64)
	case 'f':
		m.Proof = r.bytes(32)
	}
}

// toldMessageAt reads what begins at a place.
func toldMessageAt(b []byte, at int64) impl.MessageResult {
	if at < 0 || at > int64(len(b)) {
		return impl.MessageResult{Code: 2}
	}
	r := &toldReader{rest: b[at:]}
	if len(r.rest) == 0 {
		return impl.MessageResult{Code: 1}
	}
	m := impl.Message{Kind: r.number(1)}
	parts, known := toldParts(m.Kind)
	if !known {
		return impl.MessageResult{Code: 2}
	}
	length := r.number(3)
	switch {
	case r.bad:
		return impl.MessageResult{Code: 1}
	case length > 8192:
		return impl.MessageResult{Code: 2}
	case length > int64(len(r.rest)):
		return impl.MessageResult{Code: 1}
	}
	r.rest = r.rest[:length]
	for _, part := range parts {
		if part == '?' && len(m.Ticket) == 0 {
			break
		}
		r.part(&m, part)
	}
	if r.bad || len(r.rest) > 0 || toldMessageFault(m) != 0 {
		return impl.MessageResult{Code: 3}
	}
	return impl.MessageResult{Message: m, Next: at + 4 + length}
}

func toldCut(b []byte) impl.MessageList {
	var told impl.MessageList
	for len(b) > 0 {
		next := toldMessageAt(b, 0)
		if next.Code > 1 {
			return impl.MessageList{Code: next.Code, Messages: told.Messages}
		}
		if next.Code == 1 {
			told.Rest = b
			break
		}
		told.Messages = append(told.Messages, next.Message)
		b = b[next.Next:]
	}
	return told
}

func sameBlob(a impl.Blob, b impl.Blob) bool {
	return bytes.Equal(a.Data, b.Data)
}

func sameMessage(a impl.Message, b impl.Message) bool {
	return a.Kind == b.Kind && a.Version == b.Version && bytes.Equal(a.Random, b.Random) && bytes.Equal(a.Share, b.Share) && a.Host == b.Host &&
		slices.Equal(a.Protocols, b.Protocols) && bytes.Equal(a.Ticket, b.Ticket) && a.Age == b.Age && a.Early == b.Early &&
		bytes.Equal(a.Binder, b.Binder) && a.Resumed == b.Resumed && slices.EqualFunc(a.Certs, b.Certs, sameBlob) && bytes.Equal(a.Proof, b.Proof)
}

func sameMessages(a []impl.Message, b []impl.Message) bool {
	return slices.EqualFunc(a, b, sameMessage)
}

func cloneBlobs(blobs []impl.Blob) []impl.Blob {
	var clones []impl.Blob
	for _, blob := range blobs {
		clones = append(clones, impl.Blob{Data: bytes.Clone(blob.Data)})
	}
	return clones
}

func cloneMessage(m impl.Message) impl.Message {
	for _, list := range []*[]byte{&m.Random, &m.Share, &m.Ticket, &m.Binder, &m.Proof} {
		*list = bytes.Clone(*list)
	}
	m.Protocols, m.Certs = slices.Clone(m.Protocols), cloneBlobs(m.Certs)
	return m
}

func cloneMessages(messages []impl.Message) []impl.Message {
	var clones []impl.Message
	for _, m := range messages {
		clones = append(clones, cloneMessage(m))
	}
	return clones
}

func messageInShort(m impl.Message) string {
	var certs []int
	for _, cert := range m.Certs {
		certs = append(certs, len(cert.Data))
	}
	return fmt.Sprintf("the message of kind %d, version %d, random of %d bytes, share of %d, host %q, protocols %q, ticket of %d, age %d, early %d, binder of %d, resumed %v, certs of %d, proof of %d",
		m.Kind, m.Version, len(m.Random), len(m.Share), m.Host, m.Protocols, len(m.Ticket), m.Age, m.Early, len(m.Binder), m.Resumed, certs, len(m.Proof))
}

// plainMessages are good ones of which tests change a part: one of each kind, and a Hello without a ticket at the end.
func plainMessages() []impl.Message {
	return []impl.Message{
		{Kind: impl.KindHello, Version: 1, Random: upwards(32), Share: turned(upwards(32)), Host: "shop.example", Protocols: []string{"h2", "a"},
			Ticket: []byte{9, 8, 7}, Age: 0x01020304, Early: 1, Binder: full(32)},
		{Kind: impl.KindAnswer, Version: 1, Random: turned(upwards(32)), Share: upwards(32), Resumed: true},
		{Kind: impl.KindTicket, Age: 300, Early: 70000, Random: upwards(32), Ticket: []byte{5}},
		{Kind: impl.KindEndOfEarly},
		{Kind: impl.KindExtras, Protocols: []string{"h2"}, Early: 1},
		{Kind: impl.KindCerts, Certs: []impl.Blob{{Data: []byte{1, 2}}, {Data: []byte{3}}, {Data: []byte{4, 5, 6}}}},
		{Kind: impl.KindProof, Proof: upwards(64)},
		{Kind: impl.KindFinished, Proof: upwards(32)},
		{Kind: impl.KindUpdate, Early: 1},
		{Kind: impl.KindHello, Version: 1, Random: upwards(32), Share: turned(upwards(32)), Host: "a.b"},
	}
}

func longProtocols(count int) []string {
	var protocols []string
	for i := range count {
		protocols = append(protocols, strings.Repeat("p", 31)+string(rune('a'+i)))
	}
	return protocols
}

// greatestMessages have bodies of as many bytes as there can be.
func greatestMessages() []impl.Message {
	great := plainMessages()[:9]
	great[0].Version, great[0].Host, great[0].Protocols, great[0].Ticket, great[0].Age = 255, longName(128), longProtocols(8), full(400), impl.MaxAge
	great[1].Version = 255
	great[2].Age, great[2].Early, great[2].Ticket = impl.MaxAge, impl.MaxAge, full(400)
	great[4].Protocols = longProtocols(1)
	great[5].Certs = []impl.Blob{{Data: full(2000)}, {Data: upwards(2000)}, {Data: full(2000)}, {Data: upwards(2000)}}
	return great
}

func randomProtocols(r *rand.Rand, count int) []string {
	var protocols []string
	for len(protocols) < count {
		protocol := string(randomList(r, int(1+edgeOr(r, []int64{0, 31}, 31))))
		if !slices.Contains(protocols, protocol) {
			protocols = append(protocols, protocol)
		}
	}
	return protocols
}

func randomBlobs(r *rand.Rand, count int) []impl.Blob {
	var blobs []impl.Blob
	for range count {
		blobs = append(blobs, impl.Blob{Data: randomList(r, int(1+edgeOr(r, []int64{0, 1, 255, 256, 1999}, 1999)))})
	}
	return blobs
}

// randomMessage is well-formed, with ends of bounds more often than chance has them.
func randomMessage(r *rand.Rand, kind int64) impl.Message {
	ages := []int64{0, 1, 255, 256, 65536, impl.MaxAge - 1, impl.MaxAge}
	m := impl.Message{Kind: kind}
	parts, _ := toldParts(kind)
	for _, part := range parts {
		switch part {
		case 'V':
			m.Version = edgeOr(r, []int64{0, 1, 255}, 255)
		case 'R':
			m.Random = randomList(r, 32)
		case 'S':
			m.Share = randomList(r, 32)
		case 'H':
			m.Host = randomName(r)
		case 'P':
			most := int64(8)
			if kind == 8 {
				most = 1
			}
			m.Protocols = randomProtocols(r, int(edgeOr(r, []int64{0, 1, most}, most)))
		case 'T':
			m.Ticket = randomList(r, int(edgeOr(r, []int64{1, 255, 256, 400}, 399)))
			if kind == 4 && len(m.Ticket) == 0 || r.Intn(8) == 0 {
				m.Ticket = []byte{byte(r.Intn(256))}
			}
		case 'A':
			m.Age = edgeOr(r, ages, impl.MaxAge)
		case 'e':
			m.Early = r.Int63n(2)
		case 'E':
			m.Early = edgeOr(r, ages, impl.MaxAge)
		case 'B':
			m.Binder = randomList(r, 32)
		case 'r':
			m.Resumed = r.Intn(2) == 0
		case 'C':
			m.Certs = randomBlobs(r, 1+r.Intn(4))
		case 'p':
			m.Proof = randomList(r, 64)
		case 'f':
			m.Proof = randomList(r, 32)
		}
	}
	if kind == 1 && (len(m.Ticket) == 0 || r.Intn(3) == 0) {
		m.Ticket, m.Age, m.Early, m.Binder = nil, 0, 0, nil
	}
	return m
}

// manyMessages are well-formed ones of every kind.
func manyMessages(r *rand.Rand, count int) []impl.Message {
	messages := append(plainMessages(), greatestMessages()...)
	for i := range count {
		messages = append(messages, randomMessage(r, toldKinds()[i%9]))
	}
	return messages
}

func TestMessageConstants(t *testing.T) {
	got := []int64{impl.KindHello, impl.KindAnswer, impl.KindTicket, impl.KindEndOfEarly, impl.KindExtras, impl.KindCerts, impl.KindProof,
		impl.KindFinished, impl.KindUpdate, impl.Version, impl.MaxBody, impl.MaxProtocols, impl.MaxTicket, impl.MaxAge}
	if want := []int64{1, 2, 4, 5, 8, 11, 15, 20, 24, 1, 8192, 8, 400, 4294967295}; !slices.Equal(got, want) {
		t.Errorf("got %d, want %d", got, want)
	}
}

// The messages of the tests have what the tests want of them.
func TestToldMessages(t *testing.T) {
	r := rand.New(rand.NewSource(232))
	kinds, empty, tickets := map[int64]int{}, 0, 0
	for _, m := range manyMessages(r, 900) {
		if fault := toldMessageFault(m); fault != 0 {
			t.Errorf("%s has the fault %d", messageInShort(m), fault)
		}
		if back := toldMessageAt(toldMessageForm(m), 0); back.Code != 0 || !sameMessage(back.Message, m) {
			t.Errorf("%s is told as %d, %s", messageInShort(m), back.Code, messageInShort(back.Message))
		}
		kinds[m.Kind]++
		if m.Kind == 1 && len(m.Ticket) == 0 {
			empty++
		} else if m.Kind == 1 {
			tickets++
		}
	}
	for _, kind := range toldKinds() {
		if kinds[kind] < 100 {
			t.Errorf("there are %d messages of kind %d", kinds[kind], kind)
		}
	}
	if empty < 25 || tickets < 50 {
		t.Errorf("there are %d Hellos without a ticket, and %d with one", empty, tickets)
	}
}
