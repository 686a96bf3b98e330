package tests

import (
	"bytes"
	"fmt"
	"math/rand"
	"slices"
	"testing"

	"loop.example/g00004/impl"
)

// Writing, closing, renewing keys, and the tickets of an end that is open.

func bothOpen() []func() *play {
	return []func() *play{openClient, openServer}
}

func TestWriting(t *testing.T) {
	t.Parallel()
	for _, open := range bothOpen() {
		for _, size := range []int{0, 1, 2047, 2048, 2049, 4096, 4097, 10000} {
			for _, pad := range []int64{0, 1, 256} {
				p := open()
				p.subject.c.Pad = pad
				sent := len(p.subject.r.Sent)
				data := bytes.Repeat([]byte("word"), size)[:size]
				got := p.do(impl.Event{Kind: impl.EvWrite, Data: data}).checkOpen(t, fmt.Sprint("write ", size))
				records := impl.CutRecords(got.Sent[sent:]).Records
				if want := (size + 2047) / 2048; len(records) != want || len(got.Sent)-sent != size+want*(20+int(pad)) {
					t.Errorf("%d bytes with pad %d: %d records, %d bytes", size, pad, len(records), len(got.Sent)-sent)
				}
				p.back()
				checkList(t, "read", p.other.r.Read, data)
			}
		}
	}
}

func TestClosing(t *testing.T) {
	t.Parallel()
	for _, open := range bothOpen() {
		p := open()
		sent := len(p.subject.r.Sent)
		secret := p.subject.writes()
		number := p.subject.numbered("out", secret)
		got := p.do(closing()).check(t, "this end closes", impl.PhaseOpen, impl.AlertClose, noAlert)
		checkList(t, "what is sent", got.Sent[sent:], impl.Protect(impl.TrafficKeys(secret), number, 21, []byte{0}, 0))
		got = p.sends(23, []byte("still")).check(t, "it still reads", impl.PhaseOpen, impl.AlertClose, noAlert)
		checkList(t, "read", got.Read, []byte("still"))
		p.sends(21, []byte{0}).check(t, "the other end closes too", impl.PhaseClosed, impl.AlertClose, impl.AlertClose)
		p.do(waiting(4)).check(t, "time goes by", impl.PhaseClosed, impl.AlertClose, impl.AlertClose)
		p.do(closing()).do(writing("x")).do(updating(0)).check(t, "no more", impl.PhaseClosed, impl.AlertClose, impl.AlertClose)

		p = open().sends(21, []byte{0})
		p.check(t, "the other end closes", impl.PhaseOpen, noAlert, impl.AlertClose)
		p.do(writing("words")).do(updating(1)).do(writing("more")).check(t, "this end still writes", impl.PhaseOpen, noAlert, impl.AlertClose)
		p.do(closing()).check(t, "and closes", impl.PhaseClosed, impl.AlertClose, impl.AlertClose)
		p.back()
		checkList(t, "read by the other end", p.other.r.Read, []byte("wordsmore"))
	}
}

// Behind the other end's AlertClose all is passed over, in the same event and in later ones, whatever it is.
func TestNothingIsReadBehindClosing(t *testing.T) {
	t.Parallel()
	for _, open := range bothOpen() {
		for _, own := range []bool{false, true} {
			for _, rest := range [][]byte{{9}, {21, 0, 1, 42}, {22, 0, 1, 5}, strange(17), strange(40), {23, 255, 255}, upwards(3000)} {
				p := open()
				phase, alert := int64(impl.PhaseOpen), int64(noAlert)
				if own {
					p.do(closing())
					phase, alert = impl.PhaseClosed, impl.AlertClose
				}
				p.other.send(21, []byte{0}, 0)
				p.other.r.Sent = append(p.other.r.Sent, rest...)
				before := len(p.subject.r.Sent)
				got := p.deliver().check(t, "in one event", phase, alert, impl.AlertClose)
				p.bytes(rest).check(t, "and in another", phase, alert, impl.AlertClose)
				p.other.send(23, []byte("late"), 0)
				p.other.send(21, []byte{42}, 0)
				got = p.deliver().check(t, "and what is sealed well", phase, alert, impl.AlertClose)
				if len(got.Read) > 0 || len(got.Sent) != before || slices.Contains(got.Answers, 1) {
					t.Errorf("behind closing: %s", reportInShort(got))
				}
			}
		}
	}
}

// An end that has closed fails as ever, and sends its alert.
func TestFailingBehindClosing(t *testing.T) {
	t.Parallel()
	for _, open := range bothOpen() {
		p := open().do(closing())
		sent := len(p.subject.r.Sent)
		got := p.sends(22, []byte{99}).checkFails(t, "fails behind closing", impl.AlertDecode)
		if len(got.Sent) == sent {
			t.Errorf("no alert is sent behind closing")
		}
		open().do(closing()).sends(21, []byte{20}).check(t, "the other end fails", impl.PhaseFailed, impl.AlertClose, 20)
	}
}

// AlertClose ahead of the end of a handshake ends it.
func TestClosingAheadOfTime(t *testing.T) {
	t.Parallel()
	for _, s := range allStages() {
		if s.open {
			continue
		}
		p := s.build()
		sent := len(p.subject.r.Sent)
		if got := p.sends(21, []byte{0}).check(t, s.what, impl.PhaseFailed, noAlert, impl.AlertClose); len(got.Sent) != sent {
			t.Errorf("%s: sent behind AlertClose", s.what)
		}
	}
}

// updateForm is the record of an Update with a secret.
func updateForm(secret []byte, number int64, early byte) []byte {
	return impl.Protect(impl.TrafficKeys(secret), number, 22, []byte{24, 0, 0, 1, early}, 0)
}

// Behind an Update an end seals with the next secret, and numbers from 0 on.
func TestUpdatesSent(t *testing.T) {
	t.Parallel()
	for _, open := range bothOpen() {
		p := open()
		label := "client data"
		number := int64(0)
		if p.config().Server {
			// Its ticket has the first number.
			label, number = "server data", 1
		}
		secret := p.subject.secret(label)
		sent := len(p.subject.r.Sent)
		got := p.do(updating(0)).do(writing("a")).do(writing("b")).do(updating(1)).do(updating(0)).do(writing("c")).do(closing()).
			check(t, "updates", impl.PhaseOpen, impl.AlertClose, noAlert)
		next := impl.NextSecret(secret)
		third := impl.NextSecret(next)
		fourth := impl.NextSecret(third)
		want := slices.Concat(updateForm(secret, number, 0), sealedData(next, 0, "a", 0), sealedData(next, 1, "b", 0), updateForm(next, 2, 1),
			updateForm(third, 0, 0), sealedData(fourth, 0, "c", 0), impl.Protect(impl.TrafficKeys(fourth), 1, 21, []byte{0}, 0))
		checkList(t, "sent", got.Sent[sent:], want)
		p.back()
		checkList(t, "read", p.other.r.Read, []byte("abc"))
	}
}

// An Update with the number 1 is answered with one of the number 0 at once, unless this end has closed.
func TestUpdatesReceived(t *testing.T) {
	t.Parallel()
	for _, open := range bothOpen() {
		for _, early := range []int64{0, 1} {
			p := open()
			secret := p.subject.writes()
			number := p.subject.numbered("out", secret)
			sent := len(p.subject.r.Sent)
			got := p.says(impl.Message{Kind: impl.KindUpdate, Early: early}).checkOpen(t, "an update")
			var want []byte
			if early == 1 {
				want = updateForm(secret, number, 0)
			}
			checkList(t, fmt.Sprint("the answer to ", early), got.Sent[sent:], want)
			got = p.sends(23, []byte("new")).checkOpen(t, "with the next secret")
			checkList(t, "read", got.Read, []byte("new"))
			p.do(writing("mine")).back()
			checkList(t, "read by the other end", p.other.r.Read, []byte("mine"))

			p = open().do(closing())
			sent = len(p.subject.r.Sent)
			got = p.says(impl.Message{Kind: impl.KindUpdate, Early: early}).check(t, "an update behind closing", impl.PhaseOpen, impl.AlertClose, noAlert)
			checkList(t, "no answer", got.Sent[sent:], nil)
			got = p.sends(23, []byte("new")).check(t, "then data", impl.PhaseOpen, impl.AlertClose, noAlert)
			checkList(t, "read", got.Read, []byte("new"))
		}
		// With the old secret nothing opens any more.
		p := open()
		old := p.other.writes()
		number := p.other.numbered("out", old)
		p.says(impl.Message{Kind: impl.KindUpdate})
		p.bytes(impl.Protect(impl.TrafficKeys(old), number+1, 23, []byte("old"), 0)).checkFails(t, "the old secret", impl.AlertBadRecord)
		p = open().says(impl.Message{Kind: impl.KindUpdate})
		p.bytes(impl.Protect(impl.TrafficKeys(impl.NextSecret(old)), 1, 23, []byte("old"), 0)).checkFails(t, "another number", impl.AlertBadRecord)
	}
}

func TestManyUpdates(t *testing.T) {
	t.Parallel()
	r := rand.New(rand.NewSource(395))
	for _, open := range bothOpen() {
		p := open()
		var mine, theirs []byte
		for range 60 {
			switch word := randomList(r, 1+r.Intn(20)); r.Intn(4) {
			case 0:
				p.do(updating(r.Int63n(2))).back()
			case 1:
				p.says(impl.Message{Kind: impl.KindUpdate, Early: r.Int63n(2)}).back()
			case 2:
				mine = append(mine, word...)
				p.do(impl.Event{Kind: impl.EvWrite, Data: word}).back()
			case 3:
				theirs = append(theirs, word...)
				p.sends(23, word)
			}
		}
		got := p.deliver().checkOpen(t, "many updates")
		checkList(t, "read by this end", got.Read, theirs)
		checkList(t, "read by the other end", p.other.r.Read, mine)
	}
}

func ticketMessage(age int64, early int64, ticket []byte) impl.Message {
	return impl.Message{Kind: impl.KindTicket, Age: age, Early: early, Random: full(32), Ticket: ticket}
}

func TestTicketsReceived(t *testing.T) {
	t.Parallel()
	server := shopServer()
	server.Life = 0
	for _, open := range []func() *play{openClient, func() *play { return playClient(shopClient(), server).back().open() },
		func() *play { return openClient().do(closing()) }} {
		for _, age := range []int64{1, 2, 500, lastLife - 1, lastLife} {
			for _, early := range []int64{0, 1, lastAge} {
				p := open().do(waiting(age)).says(ticketMessage(age, early, upwards(400)))
				got := p.check(t, "a ticket", impl.PhaseOpen, p.subject.r.Alert, noAlert)
				want := impl.Saved{Ticket: upwards(400), Psk: impl.TicketSecret(p.subject.secret("resume"), full(32)), Random: full(32), Got: 5000 + age,
					Life: age, Host: shopHost, Early: early}
				if !sameSaved(got.Saved, want) {
					t.Errorf("a ticket of %d seconds: %s", age, reportInShort(got))
				}
			}
		}
		for _, age := range []int64{0, lastLife + 1, lastLife + 2, 1 << 20, lastAge} {
			p := open()
			before := p.subject.r.Saved
			got := p.says(ticketMessage(age, 0, []byte{1})).checkFails(t, fmt.Sprint("a ticket of ", age), impl.AlertIllegal)
			if !sameSaved(got.Saved, before) {
				t.Errorf("a ticket of %d seconds was saved", age)
			}
		}
	}
}

// The last ticket counts, also where several stand in one record, and what is wrong behind them changes nothing of it.
func TestLastTicketIsSaved(t *testing.T) {
	t.Parallel()
	p := openClient()
	for i := range 5 {
		p.do(waiting(1)).says(ticketMessage(int64(i)+7, int64(i), []byte{byte(i)}))
	}
	got := p.checkOpen(t, "several tickets")
	if !bytes.Equal(got.Saved.Ticket, []byte{4}) || got.Saved.Life != 11 || got.Saved.Got != 5005 {
		t.Errorf("several tickets: %s", reportInShort(got))
	}
	three := slices.Concat(toldMessageForm(ticketMessage(3, 0, []byte{3})), toldMessageForm(ticketMessage(4, 0, []byte{4})), toldMessageForm(ticketMessage(5, 0, []byte{5})))
	got = openClient().sends(22, three).checkOpen(t, "in one record")
	if !bytes.Equal(got.Saved.Ticket, []byte{5}) {
		t.Errorf("in one record: %s", reportInShort(got))
	}
	got = openClient().sends(22, append(bytes.Clone(three), toldMessageForm(ticketMessage(0, 0, []byte{6}))...)).checkFails(t, "and a wrong one", impl.AlertIllegal)
	if !bytes.Equal(got.Saved.Ticket, []byte{5}) {
		t.Errorf("and a wrong one: %s", reportInShort(got))
	}
	got = openClient().sends(22, append(bytes.Clone(three), 24, 0, 0, 1, 0)).checkOpen(t, "and an update")
	got = openClient().sends(22, append(bytes.Clone(three), 24, 0, 0, 1, 0, 4)).checkFails(t, "and an update with more behind it", impl.AlertUnexpected)
	got = openClient().sends(22, append(bytes.Clone(three), 99)).checkFails(t, "and no message", impl.AlertDecode)
	if !bytes.Equal(got.Saved.Ticket, []byte{5}) {
		t.Errorf("and no message: %s", reportInShort(got))
	}
}

// What was saved ahead of the connection is not told again.
func TestSavedIsOfThisConnection(t *testing.T) {
	t.Parallel()
	server := shopServer()
	server.Life = 0
	got := playClient(backClient(), server).back().open().checkOpen(t, "no new ticket")
	if !sameSaved(got.Saved, impl.Saved{}) || !got.Resumed {
		t.Errorf("no new ticket: %s", reportInShort(got))
	}
}

// The psk of a ticket hangs on all that was said, the client's Finished included.
func TestTicketSecretsDiffer(t *testing.T) {
	t.Parallel()
	seen := map[string]bool{}
	for i := range 4 {
		client := shopClient()
		client.Seed = seedNumber(30 + i)
		got := playClient(client, shopServer()).back().open().checkOpen(t, "a ticket")
		seen[string(got.Saved.Psk)] = true
	}
	if len(seen) != 4 {
		t.Errorf("%d different psks of 4", len(seen))
	}
}
