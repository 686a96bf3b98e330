package tests

import (
	"bytes"
	"math/rand"
	"slices"
	"testing"

	"loop.example/g00004/impl"
)

// The general rules 2 to 4 of chapter 13: a message has lists of bytes, of texts and of certificates.

// guardedBlobs is a list with known certificates ahead of it and in the room behind it, each of them guarded itself.
type guardedBlobs struct {
	list   []impl.Blob
	whole  []impl.Blob
	before []impl.Blob
	data   []guardedList
}

func guardBlobs(blobs []impl.Blob) guardedBlobs {
	var g guardedBlobs
	for _, blob := range slices.Concat(blobsOf(5, 6), blobs, blobsOf(7, 8)) {
		data := guard(blob.Data)
		g.data = append(g.data, data)
		g.whole = append(g.whole, impl.Blob{Data: data.list})
	}
	g.list, g.before = g.whole[2:2+len(blobs)], cloneBlobs(g.whole)
	return g
}

func (g guardedBlobs) changed() bool {
	return anyChanged(g.data) || !slices.EqualFunc(g.whole, g.before, sameBlob)
}

type guardedMessage struct {
	message   impl.Message
	lists     []guardedList
	protocols guardedTexts
	certs     guardedBlobs
}

func guardMessage(m impl.Message) guardedMessage {
	g := guardedMessage{message: m, protocols: guardTexts(m.Protocols), certs: guardBlobs(m.Certs)}
	for _, list := range []*[]byte{&g.message.Random, &g.message.Share, &g.message.Ticket, &g.message.Binder, &g.message.Proof} {
		guarded := guard(*list)
		*list = guarded.list
		g.lists = append(g.lists, guarded)
	}
	g.message.Protocols, g.message.Certs = g.protocols.list, g.certs.list
	return g
}

func (g guardedMessage) changed() bool {
	return anyChanged(g.lists) || g.protocols.changed() || g.certs.changed()
}

// listsOfMessage are all lists of bytes that a message has.
func listsOfMessage(m impl.Message) [][]byte {
	lists := [][]byte{m.Random, m.Share, m.Ticket, m.Binder, m.Proof}
	for _, cert := range m.Certs {
		lists = append(lists, cert.Data)
	}
	return lists
}

func listsOfMessages(messages []impl.Message) [][]byte {
	var lists [][]byte
	for _, m := range messages {
		lists = append(lists, listsOfMessage(m)...)
	}
	return lists
}

// messagesFaulty are well-formed or not: an argument stays as it is either way.
func messagesFaulty(r *rand.Rand) []impl.Message {
	messages := append(manyMessages(r, 90), impl.Message{})
	for _, m := range plainMessages() {
		for _, one := range fewOfEachField(r, messageChanges(m), 3) {
			messages = append(messages, one.of(m))
		}
	}
	return messages
}

func TestMessageFaultMemory(t *testing.T) {
	r := rand.New(rand.NewSource(252))
	for _, m := range messagesFaulty(r) {
		g := guardMessage(m)
		for range 2 {
			if got := impl.MessageFault(g.message); got != toldMessageFault(m) {
				t.Errorf("with room behind the lists %s: got %d, told %d", messageInShort(m), got, toldMessageFault(m))
			}
			if g.changed() {
				t.Errorf("%s or the room behind its lists was changed", messageInShort(m))
			}
		}
	}
}

// checkMessageBytes asks a call with the guarded lists of a message for bytes that are new memory.
func checkMessageBytes(t *testing.T, what string, m impl.Message, call func(m impl.Message) []byte) {
	t.Helper()
	want := call(m)
	g := guardMessage(m)
	first, second := call(g.message), call(g.message)
	if g.changed() {
		t.Errorf("%s: %s or the room behind its lists was changed", what, messageInShort(m))
	}
	checkList(t, what+" with room behind the lists", first, want)
	room := slices.Clone(second[:cap(second)])
	spoil(first)
	if g.changed() || !bytes.Equal(second[:cap(second)], room) {
		t.Errorf("%s: the answer of %s shares memory", what, messageInShort(m))
	}
	spoil(second)
	checkList(t, what+" asked again", call(g.message), want)
}

func TestEncodeMessageMemory(t *testing.T) {
	r := rand.New(rand.NewSource(253))
	for _, m := range messagesFaulty(r) {
		checkMessageBytes(t, "encoding", m, impl.EncodeMessage)
		checkMessageBytes(t, "the head", m, impl.HelloHead)
	}
}

// The lists of one message may share their memory.
func TestEncodeMessageFromOneList(t *testing.T) {
	whole := full(400)
	m := plainMessages()[0]
	m.Random, m.Share, m.Ticket, m.Binder = whole[:32], whole[16:48], whole, whole[:32]
	checkMessageBack(t, m)
	certs := impl.Message{Kind: impl.KindCerts, Certs: []impl.Blob{{Data: whole}, {Data: whole[:9]}, {Data: whole[3:300]}, {Data: whole}}}
	checkMessageBack(t, certs)
	if !bytes.Equal(whole, full(400)) {
		t.Errorf("a list that is shared was changed")
	}
}

func ofDecodeMessage(at int64) func(args [][]byte) [][]byte {
	return func(args [][]byte) [][]byte { return listsOfMessage(impl.DecodeMessage(args[0], at).Message) }
}

func ofCutMessages(args [][]byte) [][]byte {
	cut := impl.CutMessages(args[0])
	return append(listsOfMessages(cut.Messages), cut.Rest)
}

func TestDecodeMessageMemory(t *testing.T) {
	r := rand.New(rand.NewSource(254))
	for _, m := range manyMessages(r, 45) {
		form := toldMessageForm(m)
		checkMemory(t, "decoding", ofDecodeMessage(0), form)
		checkMemory(t, "decoding inside", ofDecodeMessage(3), slices.Concat([]byte{1, 2, 3}, form, form))
		checkMemory(t, "decoding less", ofDecodeMessage(0), form[:len(form)-1])
		checkMemory(t, "decoding another body", ofDecodeMessage(0), framed(byte(m.Kind), len(form), form))
		for _, at := range []int64{-1, int64(len(form)), int64(len(form)) + 1} {
			checkMemory(t, "decoding outside", ofDecodeMessage(at), form)
		}
	}
}

func TestCutMessagesMemory(t *testing.T) {
	r := rand.New(rand.NewSource(255))
	for range 60 {
		whole := formsOf(someMessages(r, r.Intn(5)))
		checkMemory(t, "cutting", ofCutMessages, whole)
		checkMemory(t, "cutting with a rest", ofCutMessages, slices.Concat(whole, []byte{1, 0, 0, 80, 5}))
		checkMemory(t, "cutting at a fault", ofCutMessages, slices.Concat(whole, []byte{24, 0, 0, 1, 9, 1, 2, 3}))
	}
}

// spoilMessage leaves nothing of a message as it was, the room behind its lists included.
func spoilMessage(m *impl.Message) {
	for _, list := range listsOfMessage(*m) {
		spoil(list)
	}
	protocols, certs := m.Protocols[:cap(m.Protocols)], m.Certs[:cap(m.Certs)]
	for i := range protocols {
		protocols[i] = "spoilt"
	}
	for i := range certs {
		certs[i] = impl.Blob{Data: []byte("spoilt")}
	}
	*m = impl.Message{Kind: -1}
}

// The lists of texts, certificates and messages of an answer are apart as well.
func TestCutMessagesApart(t *testing.T) {
	r := rand.New(rand.NewSource(256))
	for range 60 {
		messages := append(someMessages(r, 6), plainMessages()...)
		g := guard(formsOf(messages))
		first, second := impl.CutMessages(g.list), impl.CutMessages(g.list)
		for _, i := range r.Perm(len(messages)) {
			before := cloneMessages(first.Messages)
			spoilMessage(&first.Messages[i])
			for j, m := range first.Messages {
				if j != i && !sameMessage(m, before[j]) {
					t.Errorf("messages %d and %d of one answer share memory", i, j)
				}
			}
		}
		if room := first.Messages[:cap(first.Messages)]; len(room) > 0 {
			clear(room)
		}
		if !sameMessages(second.Messages, messages) || g.changed() {
			t.Errorf("two answers share memory")
		}
		for i := range second.Messages {
			spoilMessage(&second.Messages[i])
		}
		if third := impl.CutMessages(g.list); !sameMessages(third.Messages, messages) {
			t.Errorf("asked again, the messages are others")
		}
	}
}

func TestDecodeMessageApart(t *testing.T) {
	r := rand.New(rand.NewSource(257))
	for _, m := range manyMessages(r, 90) {
		g := guard(toldMessageForm(m))
		first, second := impl.DecodeMessage(g.list, 0), impl.DecodeMessage(g.list, 0)
		spoilMessage(&first.Message)
		if g.changed() || !sameMessage(second.Message, m) {
			t.Errorf("two answers of %s share memory", messageInShort(m))
		}
		spoilMessage(&second.Message)
		if third := impl.DecodeMessage(g.list, 0); !sameMessage(third.Message, m) {
			t.Errorf("asked again, %s is another", messageInShort(m))
		}
	}
}
