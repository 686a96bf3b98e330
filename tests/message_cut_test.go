package tests

import (
	"bytes"
	"math/rand"
	"slices"
	"testing"

	"loop.example/g00004/impl"
)

// What chapter 13 says of messages one behind the other, and the second half of promise 20.

func listInShort(l impl.MessageList) string {
	text := ""
	for _, m := range l.Messages {
		text += messageInShort(m) + "; "
	}
	return text
}

// checkCut holds bytes to what they are cut into; what was cut, one behind the other, is the very bytes if there is no code.
func checkCut(t *testing.T, what string, b []byte, want impl.MessageList) {
	t.Helper()
	got := impl.CutMessages(b)
	if got.Code != want.Code || !sameMessages(got.Messages, want.Messages) || !bytes.Equal(got.Rest, want.Rest) {
		t.Errorf("%s: %d bytes %x: got %d, %d messages, rest %x, want %d, %d messages, rest %x: %s", what, len(b), beginning(b), got.Code, len(got.Messages),
			beginning(got.Rest), want.Code, len(want.Messages), beginning(want.Rest), listInShort(got))
		return
	}
	whole := formsOf(got.Messages)
	if got.Code == 0 {
		checkList(t, what+", put together again", append(whole, got.Rest...), b)
	} else if !bytes.HasPrefix(b, whole) {
		t.Errorf("%s: what stands ahead of the fault is not the beginning of %x", what, beginning(b))
	}
}

func checkCutTold(t *testing.T, what string, b []byte) int64 {
	t.Helper()
	want := toldCut(b)
	checkCut(t, what, b, want)
	return want.Code
}

// formsOf are the bytes of messages one behind the other.
func formsOf(messages []impl.Message) []byte {
	forms := []byte{}
	for _, m := range messages {
		forms = append(forms, impl.EncodeMessage(m)...)
	}
	return forms
}

func someMessages(r *rand.Rand, count int) []impl.Message {
	var messages []impl.Message
	for range count {
		messages = append(messages, randomMessage(r, toldKinds()[r.Intn(9)]))
	}
	return messages
}

func TestCutMessagesNothing(t *testing.T) {
	checkCut(t, "nothing", nil, impl.MessageList{})
	checkCut(t, "nothing", []byte{}, impl.MessageList{})
}

func TestPromise20CutWholeMessages(t *testing.T) {
	r := rand.New(rand.NewSource(246))
	for count := range 12 {
		for range 40 {
			messages := someMessages(r, count)
			checkCut(t, "whole messages", formsOf(messages), impl.MessageList{Messages: messages})
		}
	}
	for _, m := range append(plainMessages(), greatestMessages()...) {
		for count := range 6 {
			messages := slices.Repeat([]impl.Message{m}, count)
			checkCut(t, "one message again and again", formsOf(messages), impl.MessageList{Messages: messages})
		}
	}
}

// checkRest has each beginning of one more behind messages: the rest, with the bytes that lack, is that message.
func checkRest(t *testing.T, messages []impl.Message, more impl.Message, step int) {
	t.Helper()
	ahead, form := formsOf(messages), impl.EncodeMessage(more)
	for cut := 0; cut < len(form); cut += step {
		got := impl.CutMessages(slices.Concat(ahead, form[:cut]))
		if got.Code != 0 || !sameMessages(got.Messages, messages) || !bytes.Equal(got.Rest, form[:cut]) {
			t.Errorf("%d messages and %d bytes of %s: got %d, %d messages, rest %x: %s", len(messages), cut, messageInShort(more), got.Code, len(got.Messages),
				beginning(got.Rest), listInShort(got))
		}
		whole := impl.DecodeMessage(slices.Concat(got.Rest, form[cut:]), 0)
		if whole.Code != 0 || whole.Next != int64(len(form)) || !sameMessage(whole.Message, more) {
			t.Errorf("the rest of %d bytes goes on as %d, %s, not %s", cut, whole.Code, messageInShort(whole.Message), messageInShort(more))
		}
	}
}

func TestPromise20CutWithOneMore(t *testing.T) {
	r := rand.New(rand.NewSource(247))
	for _, more := range append(plainMessages(), greatestMessages()...) {
		for count := range 4 {
			checkRest(t, someMessages(r, count), more, 1+len(toldBody(more))/200)
		}
	}
	for range 60 {
		checkRest(t, someMessages(r, r.Intn(6)), randomMessage(r, toldKinds()[r.Intn(9)]), 7)
	}
}

// Bytes that come in pieces: what is left over goes ahead of the next piece.
func TestPromise20CutInPieces(t *testing.T) {
	r := rand.New(rand.NewSource(248))
	for range 200 {
		messages := someMessages(r, r.Intn(8))
		left := formsOf(messages)
		var told []impl.Message
		var rest []byte
		for len(left) > 0 {
			n := 1 + r.Intn(min(len(left), 300))
			got := impl.CutMessages(slices.Concat(rest, left[:n]))
			if got.Code != 0 {
				t.Fatalf("%d bytes have the code %d", n, got.Code)
			}
			told, rest, left = append(told, got.Messages...), got.Rest, left[n:]
		}
		if !sameMessages(told, messages) || len(rest) > 0 {
			t.Errorf("%d messages come as %d, with %d bytes left over", len(messages), len(told), len(rest))
		}
	}
}

// noMessages are beginnings of no message, with the code that they have.
func noMessages() map[int64][][]byte {
	return map[int64][][]byte{
		2: {{0}, {3}, {255}, {99, 0, 0, 0}, {6, 0, 0}, {1, 0, 32, 1}, {5, 1, 0, 0}, {24, 255, 255, 255, 1}, framed(11, 8193, make([]byte, 8193))},
		3: {{5, 0, 0, 1, 0}, {24, 0, 0, 0}, {24, 0, 0, 1, 2}, {24, 0, 0, 2, 1, 1}, {8, 0, 0, 3, 0, 0, 0}, {11, 0, 0, 1, 0}, {2, 0, 0, 0}, framed(15, 63, full(63)),
			framed(20, 64, full(64)), framed(11, 8192, make([]byte, 8192))},
	}
}

func TestCutMessagesAtAFault(t *testing.T) {
	r := rand.New(rand.NewSource(249))
	for _, code := range []int64{2, 3} {
		for _, b := range noMessages()[code] {
			for count := range 5 {
				messages := someMessages(r, count)
				for _, behind := range [][]byte{nil, {5, 0, 0, 0}, {1}, full(5), formsOf(someMessages(r, 2))} {
					checkCut(t, "a fault behind messages", slices.Concat(formsOf(messages), b, behind), impl.MessageList{Code: code, Messages: messages})
				}
			}
		}
	}
	// The first one decides.
	for _, first := range noMessages()[2] {
		for _, second := range noMessages()[3] {
			checkCut(t, "two faults", slices.Concat([]byte{5, 0, 0, 0}, second, first), impl.MessageList{Code: 3, Messages: []impl.Message{{Kind: 5}}})
			checkCut(t, "two faults", slices.Concat([]byte{5, 0, 0, 0}, first, make([]byte, 4), second), impl.MessageList{Code: 2, Messages: []impl.Message{{Kind: 5}}})
		}
	}
}

// A message that breaks a rule ends the cutting, with those ahead of it told.
func TestCutMessagesAtABrokenRule(t *testing.T) {
	ahead := plainMessages()
	for _, m := range plainMessages() {
		for _, one := range ownChanges(m) {
			changed := one.of(m)
			form := toldMessageForm(changed)
			if one.rule > 3 && one.rule < 7 && fitsItsForm(changed) && len(form) < 4+impl.MaxBody {
				checkCut(t, "a broken rule", slices.Concat(formsOf(ahead), form, formsOf(ahead)), impl.MessageList{Code: 3, Messages: ahead})
			}
		}
	}
}

func TestCutMessagesSpoilt(t *testing.T) {
	r := rand.New(rand.NewSource(250))
	codes := map[int64]int{}
	for range 4000 {
		b := formsOf(someMessages(r, 1+r.Intn(4)))
		for range 1 + r.Intn(2) {
			b[r.Intn(len(b))] = byte(r.Intn(256))
		}
		codes[checkCutTold(t, "spoilt", b[:len(b)-r.Intn(3)])]++
	}
	for _, code := range []int64{0, 2, 3} {
		if codes[code] < 100 {
			t.Errorf("the code %d came %d times", code, codes[code])
		}
	}
}

func TestCutMessagesAnyBytes(t *testing.T) {
	r := rand.New(rand.NewSource(251))
	for n := range 9 {
		for _, b := range allListsOf(n, 0, 1, 5, 24) {
			checkCutTold(t, "a few bytes", b)
		}
	}
	for range 5000 {
		b := randomList(r, r.Intn(40))
		for i := range b {
			if r.Intn(2) == 0 {
				b[i] = byte(r.Intn(3))
			}
		}
		checkCutTold(t, "any bytes", slices.Concat([]byte{5, 0, 0, 0}, b))
	}
}

func TestCutMessagesVeryMany(t *testing.T) {
	const count = 50000
	got := impl.CutMessages(bytes.Repeat([]byte{5, 0, 0, 0, 24, 0, 0, 1, 1}, count))
	if got.Code != 0 || len(got.Messages) != 2*count || len(got.Rest) != 0 {
		t.Errorf("got %d, %d messages, %d bytes left over", got.Code, len(got.Messages), len(got.Rest))
	}
	for i, m := range got.Messages {
		if want := []impl.Message{{Kind: 5}, {Kind: 24, Early: 1}}[i%2]; !sameMessage(m, want) {
			t.Fatalf("message %d is %s", i, messageInShort(m))
		}
	}
}
