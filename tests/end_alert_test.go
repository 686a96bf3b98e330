package tests

import (
	"fmt"
	"slices"
	"testing"

	"loop.example/g00004/impl"
)

// Every alert with which an end fails, with what leads to it, wherever it stands.

// stage is a place where an end stands, with another end that writes with what the first one reads with there.
type stage struct {
	what    string
	build   func() *play
	awaited []int64
	sealed  bool
	opened  bool
	open    bool
}

// backTo has the other end know so many messages only, and number its next record so.
func (p *play) backTo(count int, number int64) *play {
	p.other.messages = p.other.messages[:count]
	p.other.numbers = map[string]int64{"out" + string(p.other.writes()): number}
	p.other.r.Phase = impl.PhaseWaiting
	p.heard = len(p.other.r.Sent)
	return p
}

func noEarlyServer() impl.EndConfig {
	s := shopServer()
	s.EarlyMost = 0
	return s
}

func clientAt(client impl.EndConfig, count int) *play {
	return playClient(client, shopServer()).back().records(count).backTo(1+count, int64(count-1))
}

func clientStages() []stage {
	return []stage{
		{"client before the Answer", func() *play { return clientAt(shopClient(), 0) }, []int64{impl.KindAnswer}, false, false, false},
		{"client before Extras", func() *play { return clientAt(shopClient(), 1) }, []int64{impl.KindExtras}, true, false, false},
		{"client before Certificates", func() *play { return clientAt(shopClient(), 2) }, []int64{impl.KindCerts}, true, true, false},
		{"client before Proof", func() *play { return clientAt(shopClient(), 3) }, []int64{impl.KindProof}, true, true, false},
		{"client before Finished", func() *play { return clientAt(shopClient(), 4) }, []int64{impl.KindFinished}, true, true, false},
		{"resumed client before Extras", func() *play { return clientAt(backClient(), 1) }, []int64{impl.KindExtras}, true, false, false},
		{"resumed client before Finished", func() *play { return clientAt(backClient(), 2) }, []int64{impl.KindFinished}, true, true, false},
		{"early client before the Answer", func() *play { return clientAt(earlyClient(), 0) }, []int64{impl.KindAnswer}, false, false, false},
		{"early client before Extras", func() *play { return clientAt(earlyClient(), 1) }, []int64{impl.KindExtras}, true, false, false},
		{"early client before Finished", func() *play { return clientAt(earlyClient(), 2) }, []int64{impl.KindFinished}, true, true, false},
		{"open client", openClient, []int64{impl.KindTicket, impl.KindUpdate}, true, true, true},
		{"closed client that reads", func() *play { return openClient().do(closing()) }, []int64{impl.KindTicket, impl.KindUpdate}, true, true, true},
	}
}

func serverStages() []stage {
	fresh := func() *play { return playServer(shopClient(), shopServer()).backTo(0, 0) }
	behindHello := func() *play {
		p := playServer(shopClient(), shopServer()).deliver().back()
		return p.backTo(len(p.other.messages)-1, 0)
	}
	passing := func() *play {
		p := playServer(earlyClient(), noEarlyServer()).deliver().back()
		return p.backTo(len(p.other.messages)-1, 0)
	}
	early := func() *play { return playServer(earlyClient(), shopServer()).deliver().back().backTo(4, 1) }
	behindEarly := func() *play {
		return playServer(earlyClient(), shopServer()).deliver().back().records(1).backTo(5, 0)
	}
	return []stage{
		{"server before the Hello", fresh, []int64{impl.KindHello}, false, false, false},
		{"server before Finished", behindHello, []int64{impl.KindFinished}, true, false, false},
		{"server that passes over", passing, []int64{impl.KindFinished}, true, false, false},
		{"server before the end of early data", early, []int64{impl.KindEndOfEarly}, true, true, false},
		{"server behind the end of early data", behindEarly, []int64{impl.KindFinished}, true, true, false},
		{"open server", openServer, []int64{impl.KindUpdate}, true, true, true},
		{"closed server that reads", func() *play { return openServer().do(closing()) }, []int64{impl.KindUpdate}, true, true, true},
	}
}

func allStages() []stage {
	return append(clientStages(), serverStages()...)
}

func (s stage) checkFails(t *testing.T, what string, p *play, alert int64) {
	t.Helper()
	p.checkFails(t, s.what+", "+what, alert)
}

// The stages are what they say: what is awaited there is not refused for coming.
func TestStagesAwait(t *testing.T) {
	t.Parallel()
	for _, s := range allStages() {
		p := s.build()
		if got := p.subject.awaited(); !slices.Equal(got, s.awaited) {
			t.Errorf("%s: awaits %v", s.what, got)
		}
		if p.subject.opened != s.opened || (p.subject.reads() != nil) != s.sealed || (p.subject.r.Phase == impl.PhaseOpen) != s.open {
			t.Errorf("%s: opened %v, phase %d", s.what, p.subject.opened, p.subject.r.Phase)
		}
		got := impl.RunEnd(p.config(), p.events)
		if !sameReport(got, p.subject.r) || got.Phase == impl.PhaseFailed {
			t.Errorf("%s: %s", s.what, reportInShort(got))
		}
	}
}

func TestMessagesThatMayNotCome(t *testing.T) {
	t.Parallel()
	for _, s := range allStages() {
		for _, m := range plainMessages() {
			if !slices.Contains(s.awaited, m.Kind) {
				s.checkFails(t, fmt.Sprintf("a message of kind %d", m.Kind), s.build().says(m), impl.AlertUnexpected)
			}
		}
	}
}

func turningKinds() []int64 {
	return []int64{impl.KindHello, impl.KindAnswer, impl.KindFinished, impl.KindEndOfEarly, impl.KindUpdate}
}

// endings may stand behind a message: part of another one, a whole one, and what is none.
func endings() [][]byte {
	return [][]byte{{5}, {8, 0, 0}, {5, 0, 0, 0}, {20, 0, 0, 32, 1, 2, 3}, {99}, {0}, {5, 0, 0, 1, 1}, {24, 0, 0, 1, 2}, {11, 0, 32, 1}, {5, 0, 0, 0, 99}}
}

// Behind a message with which the secret changes nothing may stand, whatever it is, and whatever is wrong with the message.
func TestNothingBehindATurningMessage(t *testing.T) {
	t.Parallel()
	for _, s := range allStages() {
		for _, m := range plainMessages() {
			if !slices.Contains(turningKinds(), m.Kind) {
				continue
			}
			for _, ending := range endings() {
				s.checkFails(t, fmt.Sprintf("kind %d and %x", m.Kind, ending), s.build().sends(22, append(toldMessageForm(m), ending...)), impl.AlertUnexpected)
			}
		}
	}
}

// realMessage is the message that the other end would have sent at this stage.
func realMessage(s stage) impl.Message {
	p := s.build()
	switch s.awaited[len(s.awaited)-1] {
	case impl.KindUpdate:
		return impl.Message{Kind: impl.KindUpdate}
	case impl.KindHello:
		return playEnd(shopClient()).messages[0]
	case impl.KindFinished:
		// What it says now is the real one.
		p.other.finish()
		return p.other.messages[len(p.other.messages)-1]
	case impl.KindEndOfEarly:
		return impl.Message{Kind: impl.KindEndOfEarly}
	}
	whole := playServer(p.config(), shopServer()).deliver().subject.messages
	return whole[len(p.subject.messages)]
}

func TestRealMessages(t *testing.T) {
	t.Parallel()
	for _, s := range allStages() {
		m := realMessage(s)
		p := s.build().says(m)
		got := impl.RunEnd(p.config(), p.events)
		if !sameReport(got, p.subject.r) || got.Phase == impl.PhaseFailed || !slices.Contains(s.awaited, m.Kind) {
			t.Errorf("%s, the real message of kind %d: %s", s.what, m.Kind, reportInShort(got))
		}
		for _, ending := range endings() {
			p := s.build().sends(22, append(toldMessageForm(m), ending...))
			if slices.Contains(turningKinds(), m.Kind) {
				s.checkFails(t, fmt.Sprintf("the real message and %x", ending), p, impl.AlertUnexpected)
			}
		}
	}
}

// Behind the other messages there may be more: what is none there fails behind them, what is not whole waits.
func TestBehindOtherMessages(t *testing.T) {
	t.Parallel()
	for _, s := range allStages() {
		m := realMessage(s)
		if slices.Contains(turningKinds(), m.Kind) {
			continue
		}
		for ending, alert := range map[string]int64{"\x63": impl.AlertDecode, "\x05\x00\x00\x01\x01": impl.AlertDecode, "\x18\x00\x00\x01\x02": impl.AlertDecode,
			"\x0b\x00\x20\x01": impl.AlertDecode, "\x05\x00\x00\x00": impl.AlertUnexpected, "\x18\x00\x00\x01\x00": impl.AlertUnexpected} {
			p := s.build().sends(22, append(toldMessageForm(m), ending...))
			s.checkFails(t, fmt.Sprintf("kind %d and %x", m.Kind, ending), p, alert)
		}
		p := s.build().sends(22, append(toldMessageForm(m), 11, 0, 0))
		p.check(t, s.what+", part behind", impl.PhaseWaiting, noAlert, noAlert)
	}
}

func TestBytesThatAreNoMessage(t *testing.T) {
	t.Parallel()
	for _, s := range allStages() {
		for _, bad := range [][]byte{{0}, {3}, {99}, {255, 1, 2}, {1, 0, 32, 1}, {20, 255, 255, 255}, {5, 0, 0, 1, 0}, {24, 0, 0, 1, 2}, {24, 0, 0, 0}, {11, 0, 0, 1, 0},
			{8, 0, 0, 2, 0, 2}, {2, 0, 0, 0}, {1, 0, 0, 0}} {
			s.checkFails(t, fmt.Sprintf("bytes %x", bad), s.build().sends(22, bad), impl.AlertDecode)
		}
		// The body comes in two records, and is none.
		p := s.build().sends(22, []byte{24, 0, 0, 1})
		s.checkFails(t, "a wrong body behind its head", p.sends(22, []byte{9}), impl.AlertDecode)
	}
}

// A record of another kind may not come where the rest of a message is waited for.
func TestRecordsAmidAMessage(t *testing.T) {
	t.Parallel()
	for _, s := range allStages() {
		for _, part := range [][]byte{{1}, {5, 0, 0}, {11, 0, 0, 9}, {20, 0, 0, 32, 1, 2}} {
			begun := func() *play { return s.build().sends(22, part) }
			p := begun()
			if got := impl.RunEnd(p.config(), p.events); got.Phase == impl.PhaseFailed || !sameReport(got, p.subject.r) {
				t.Errorf("%s, part %x: %s", s.what, part, reportInShort(got))
			}
			for _, data := range [][]byte{{0}, {42}, {1, 2}} {
				s.checkFails(t, "an alert amid a message", begun().sends(21, data), impl.AlertUnexpected)
				s.checkFails(t, "a plain alert amid a message", begun().bytes(toldRecordForm(impl.Record{Kind: 21, Body: data})), impl.AlertUnexpected)
				s.checkFails(t, "data amid a message", begun().sends(23, data), impl.AlertUnexpected)
			}
			if s.sealed {
				s.checkFails(t, "no data amid a message", begun().sends(23, nil), impl.AlertUnexpected)
				s.checkFails(t, "a plain record amid a message", begun().bytes(plainRecord([]byte{1})), impl.AlertUnexpected)
				s.checkFails(t, "what does not open amid a message", begun().bytes(toldRecordForm(impl.Record{Kind: 23, Body: make([]byte, 40)})), impl.AlertBadRecord)
				s.checkFails(t, "too short amid a message", begun().bytes(toldRecordForm(impl.Record{Kind: 23, Body: make([]byte, 16)})), impl.AlertOverflow)
			}
			s.checkFails(t, "no record amid a message", begun().bytes([]byte{24}), impl.AlertUnexpected)
			s.checkFails(t, "a long record amid a message", begun().bytes([]byte{21, 255, 255}), impl.AlertOverflow)
		}
	}
}

func TestRecordsThatAreNone(t *testing.T) {
	t.Parallel()
	for _, s := range allStages() {
		for _, kind := range []byte{0, 1, 20, 24, 25, 128, 255} {
			s.checkFails(t, "no kind of a record", s.build().bytes([]byte{kind}), impl.AlertUnexpected)
			s.checkFails(t, "no kind, wrong length", s.build().bytes([]byte{kind, 255, 255}), impl.AlertUnexpected)
		}
		for _, kind := range []byte{21, 22, 23} {
			for _, size := range [][]byte{{0, 0}, {9, 18}, {10, 0}, {255, 255}} {
				s.checkFails(t, "no length of a record", s.build().bytes(append([]byte{kind}, size...)), impl.AlertOverflow)
			}
		}
	}
}

func TestPlainRecords(t *testing.T) {
	t.Parallel()
	for _, s := range allStages() {
		for _, body := range [][]byte{{0}, {1, 2}, toldMessageForm(realMessage(s)), make([]byte, 17), upwards(2321)} {
			if s.sealed {
				s.checkFails(t, "a plain record of messages", s.build().bytes(plainRecord(body)), impl.AlertUnexpected)
			} else {
				s.checkFails(t, "sealed without a secret", s.build().bytes(toldRecordForm(impl.Record{Kind: 23, Body: body})), impl.AlertUnexpected)
			}
			if len(body) != 1 {
				s.checkFails(t, "a plain alert of several bytes", s.build().bytes(toldRecordForm(impl.Record{Kind: 21, Body: body})), impl.AlertUnexpected)
			}
		}
	}
}

// A plain alert counts as long as no sealed record was opened.
func TestPlainAlerts(t *testing.T) {
	t.Parallel()
	for _, s := range allStages() {
		for _, number := range []byte{0, 1, 10, 47, 51, 128, 255} {
			p := s.build()
			sent := len(p.subject.r.Sent)
			p.bytes([]byte{21, 0, 1, number})
			if s.opened {
				s.checkFails(t, "a plain alert", p, impl.AlertUnexpected)
				continue
			}
			got := p.check(t, s.what+", a plain alert", impl.PhaseFailed, noAlert, int64(number))
			if len(got.Sent) != sent {
				t.Errorf("%s: sent behind a plain alert", s.what)
			}
		}
	}
}

func TestSealedAlerts(t *testing.T) {
	t.Parallel()
	for _, s := range allStages() {
		for number := range 256 {
			if !s.sealed || number > 60 && number%50 != 5 {
				continue
			}
			p := s.build()
			before := p.subject.r
			p.sends(21, []byte{byte(number)})
			phase := int64(impl.PhaseFailed)
			if s.open && number == 0 {
				phase = impl.PhaseOpen
				if before.Alert == 0 {
					phase = impl.PhaseClosed
				}
			}
			if got := p.check(t, s.what+", an alert", phase, before.Alert, int64(number)); len(got.Sent) != len(before.Sent) {
				t.Errorf("%s: sent behind an alert", s.what)
			}
		}
		if s.sealed {
			s.checkFails(t, "an alert of two bytes", s.build().sends(21, []byte{0, 0}), impl.AlertDecode)
			s.checkFails(t, "an alert of many bytes", s.build().sends(21, upwards(2048)), impl.AlertDecode)
		}
	}
}

// inside brings a sealed record with anything inside.
func (p *play) inside(inside []byte) *play {
	secret := p.other.writes()
	body := sealedInside(impl.TrafficKeys(secret), p.other.numbered("out", secret), inside)
	return p.bytes(toldRecordForm(impl.Record{Kind: 23, Body: body}))
}

func TestSealedRecordsThatAreWrong(t *testing.T) {
	t.Parallel()
	for _, s := range allStages() {
		if !s.sealed {
			continue
		}
		passing := s.what == "server that passes over"
		for _, size := range []int{1, 2, 16} {
			p := s.build().bytes(toldRecordForm(impl.Record{Kind: 23, Body: make([]byte, size)}))
			if passing {
				p.check(t, "passed over", impl.PhaseWaiting, noAlert, noAlert)
			} else {
				s.checkFails(t, "too short", p, impl.AlertOverflow)
			}
		}
		for _, size := range []int{17, 18, 100, 2321} {
			p := s.build().bytes(toldRecordForm(impl.Record{Kind: 23, Body: upwards(size)}))
			if passing {
				p.check(t, "passed over", impl.PhaseWaiting, noAlert, noAlert)
			} else {
				s.checkFails(t, "does not open", p, impl.AlertBadRecord)
			}
		}
		s.checkFails(t, "all padding", s.build().inside([]byte{0}), impl.AlertUnexpected)
		s.checkFails(t, "all padding", s.build().inside(make([]byte, 300)), impl.AlertUnexpected)
		for _, kind := range []byte{1, 20, 24, 255} {
			s.checkFails(t, "no kind", s.build().inside(insideOf([]byte("x"), kind, 3)), impl.AlertUnexpected)
		}
		for _, kind := range []byte{21, 22, 23} {
			s.checkFails(t, "much data", s.build().inside(insideOf(upwards(2049), kind, 0)), impl.AlertOverflow)
		}
		for _, kind := range []byte{21, 22} {
			s.checkFails(t, "no data", s.build().inside(insideOf(nil, kind, 2)), impl.AlertUnexpected)
		}
	}
}

// Data may come when the handshake is done, and early ones up to their end.
func TestDataThatMayNotCome(t *testing.T) {
	t.Parallel()
	for _, s := range allStages() {
		for _, data := range [][]byte{nil, {0}, upwards(2048)} {
			if !s.sealed && len(data) == 0 {
				continue
			}
			p := s.build()
			before := len(p.subject.r.Read)
			p.sends(23, data)
			if !s.open && s.what != "server before the end of early data" {
				s.checkFails(t, "data", p, impl.AlertUnexpected)
				continue
			}
			got := impl.RunEnd(p.config(), p.events)
			if !sameReport(got, p.subject.r) || len(got.Read) != before+len(data) || got.Phase == impl.PhaseFailed {
				t.Errorf("%s, %d bytes of data: %s", s.what, len(data), reportInShort(got))
			}
		}
	}
}

// What an end fails with is sent with what it writes with there.
func TestAlertsAreSent(t *testing.T) {
	t.Parallel()
	for _, s := range allStages() {
		p := s.build()
		secret, sent := p.subject.writes(), len(p.subject.r.Sent)
		number := p.subject.numbered("out", secret)
		got := p.bytes([]byte{9}).check(t, s.what, impl.PhaseFailed, impl.AlertUnexpected, noAlert)
		want := []byte{21, 0, 1, impl.AlertUnexpected}
		if secret != nil {
			want = impl.Protect(impl.TrafficKeys(secret), number, 21, []byte{impl.AlertUnexpected}, 0)
		}
		checkList(t, s.what+": the alert", got.Sent[sent:], want)
	}
}

// With which secret an early client writes: the early one up to Extras by which its data are not taken, or to its end.
func TestSecretsOfAnEarlyClient(t *testing.T) {
	t.Parallel()
	for _, one := range []struct {
		client impl.EndConfig
		server impl.EndConfig
		labels []string
	}{
		{shopClient(), shopServer(), []string{"", "client hs", "client hs", "client hs", "client hs", "client data"}},
		{backClient(), shopServer(), []string{"", "client hs", "client hs", "client data"}},
		{earlyClient(), shopServer(), []string{"early", "early", "early", "client data"}},
		{earlyClient(), noEarlyServer(), []string{"early", "early", "client hs", "client data"}},
	} {
		for count, label := range one.labels {
			p := playClient(one.client, one.server).back().records(count)
			sent := len(p.subject.r.Sent)
			got := p.bytes([]byte{9}).check(t, label, impl.PhaseFailed, impl.AlertUnexpected, noAlert)
			want := []byte{21, 0, 1, impl.AlertUnexpected}
			if label != "" {
				number := int64(0)
				if label == "early" {
					number = 1
				}
				want = impl.Protect(impl.TrafficKeys(p.subject.secret(label)), number, 21, []byte{impl.AlertUnexpected}, 0)
			}
			checkList(t, "behind records", got.Sent[sent:], want)
		}
	}
}
