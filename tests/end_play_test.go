package tests

import (
	"bytes"
	"fmt"
	"slices"
	"testing"

	"loop.example/g00004/impl"
)

// The configurations of the tests of chapter 17, and plays: one end that is asked, and another one that says what a test
// wants it to say, with the right keys.

const shopHost = "www.shop.example"

func shopClient() impl.EndConfig {
	return impl.EndConfig{Seed: upwards(32), Now: 5000, Host: shopHost, Roots: goodCase(2).roots}
}

func shopServer() impl.EndConfig {
	return shopServerOf(goodCase(2))
}

func shopServerOf(c chainCase) impl.EndConfig {
	return impl.EndConfig{Server: true, Seed: seedNumber(70), Now: 5000, Certs: c.chain, KeySeed: c.seeds[0],
		TicketKey: seedNumber(71), Life: 500, EarlyMost: 4096, Window: impl.Window{Width: 10}}
}

// shopState is what a ticket of the shop hides that is 100 seconds old for both.
func shopState() impl.TicketState {
	return impl.TicketState{Psk: seedNumber(72), Random: seedNumber(73), Made: 4900, Life: 500, Host: shopHost, Early: 4096}
}

func ticketOfShop(state impl.TicketState) []byte {
	return impl.SealTicket(shopServer().TicketKey, upwards(12), state)
}

func savedOf(state impl.TicketState) impl.Saved {
	return impl.Saved{Ticket: ticketOfShop(state), Psk: state.Psk, Random: state.Random, Got: state.Made, Life: state.Life,
		Host: state.Host, Protocol: state.Protocol, Early: state.Early}
}

// backClient comes back with a ticket.
func backClient() impl.EndConfig {
	c := shopClient()
	c.Saved = savedOf(shopState())
	return c
}

// earlyClient comes back with a ticket and early data.
func earlyClient() impl.EndConfig {
	c := backClient()
	c.Early = []byte("early words")
	return c
}

// wideWindow is one in which early data are taken, though another mark is there.
func wideWindow() impl.Window {
	return windowOf(10, 6000, 5100)
}

type play struct {
	subject *playedEnd
	other   *playedEnd
	events  []impl.Event
	heard   int
	said    int
}

// playServer asks a server; the client has sent its Hello, which is not delivered yet.
func playServer(client impl.EndConfig, server impl.EndConfig) *play {
	return &play{subject: playEnd(server), other: playEnd(client)}
}

// playClient asks a client; its Hello has not come to the server yet.
func playClient(client impl.EndConfig, server impl.EndConfig) *play {
	return &play{subject: playEnd(client), other: playEnd(server)}
}

func (p *play) do(event impl.Event) *play {
	p.events = append(p.events, event)
	p.subject.r.Answers = append(p.subject.r.Answers, p.subject.take(event))
	return p
}

func (p *play) bytes(data []byte) *play {
	return p.do(impl.Event{Kind: impl.EvBytes, Data: data})
}

// deliver brings what the other end has sent since.
func (p *play) deliver() *play {
	data := bytes.Clone(p.other.r.Sent[p.heard:])
	p.heard = len(p.other.r.Sent)
	return p.bytes(data)
}

// back brings what was sent since to the other end.
func (p *play) back() *play {
	data := p.subject.r.Sent[p.said:]
	p.said = len(p.subject.r.Sent)
	p.other.take(impl.Event{Kind: impl.EvBytes, Data: data})
	return p
}

// open brings both ends through the handshake, whichever begins.
func (p *play) open() *play {
	for range 3 {
		p.deliver().back()
	}
	return p
}

// says has the other end send a message with what it writes with, and brings it.
func (p *play) says(m impl.Message) *play {
	p.other.say(m)
	return p.deliver()
}

// sends has the other end send one record with what it writes with, and brings it.
func (p *play) sends(kind int64, data []byte) *play {
	p.other.send(kind, data, 0)
	return p.deliver()
}

func (p *play) config() impl.EndConfig {
	return p.subject.c
}

func sameSaved(a impl.Saved, b impl.Saved) bool {
	return bytes.Equal(a.Ticket, b.Ticket) && bytes.Equal(a.Psk, b.Psk) && bytes.Equal(a.Random, b.Random) && a.Got == b.Got &&
		a.Life == b.Life && a.Host == b.Host && a.Protocol == b.Protocol && a.Early == b.Early
}

// sameBesides holds all of two reports against each other but the answers.
func sameBesides(a impl.EndReport, b impl.EndReport) bool {
	return a.Fault == b.Fault && bytes.Equal(a.Sent, b.Sent) && bytes.Equal(a.Read, b.Read) && a.EarlyRead == b.EarlyRead &&
		a.Phase == b.Phase && a.Alert == b.Alert && a.PeerAlert == b.PeerAlert && a.Now == b.Now && a.Resumed == b.Resumed &&
		a.EarlyTaken == b.EarlyTaken && a.Protocol == b.Protocol && bytes.Equal(a.Exporter, b.Exporter) &&
		bytes.Equal(a.Transcript, b.Transcript) && sameSaved(a.Saved, b.Saved) && sameWindow(a.Window, b.Window)
}

func sameReport(a impl.EndReport, b impl.EndReport) bool {
	return sameBesides(a, b) && slices.Equal(a.Answers, b.Answers)
}

func reportInShort(r impl.EndReport) string {
	return fmt.Sprintf("fault %d, answers %v, sent %d bytes %x, read %d bytes %x, early %d, phase %d, alerts %d and %d, now %d, resumed %v, taken %v, protocol %q, exporter %x, transcript %x, saved %d bytes, got %d, life %d, host %q, protocol %q, early %d, window %s",
		r.Fault, r.Answers, len(r.Sent), impl.Hash(r.Sent), len(r.Read), impl.Hash(r.Read), r.EarlyRead, r.Phase, r.Alert, r.PeerAlert, r.Now, r.Resumed, r.EarlyTaken, r.Protocol,
		beginning(r.Exporter), beginning(r.Transcript), len(r.Saved.Ticket), r.Saved.Got, r.Saved.Life, r.Saved.Host, r.Saved.Protocol, r.Saved.Early, windowInShort(r.Window))
}

// checkRun holds the program to the chapter done another way.
func checkRun(t *testing.T, what string, c impl.EndConfig, events []impl.Event) impl.EndReport {
	t.Helper()
	got, want := impl.RunEnd(c, events), toldRun(c, events)
	if !sameReport(got, want) {
		t.Errorf("%s:\ngot  %s\nwant %s", what, reportInShort(got), reportInShort(want))
	}
	return got
}

// check holds the program to the play, and both to a phase and the alerts of either end.
func (p *play) check(t *testing.T, what string, phase int64, alert int64, peer int64) impl.EndReport {
	t.Helper()
	got := impl.RunEnd(p.config(), p.events)
	if !sameReport(got, p.subject.r) {
		t.Errorf("%s:\ngot  %s\nwant %s", what, reportInShort(got), reportInShort(p.subject.r))
	}
	if got.Phase != phase || got.Alert != alert || got.PeerAlert != peer {
		t.Errorf("%s: phase %d, alerts %d and %d, not %d, %d and %d", what, got.Phase, got.Alert, got.PeerAlert, phase, alert, peer)
	}
	return got
}

// checkFails asks for an end that failed with an alert of its own.
func (p *play) checkFails(t *testing.T, what string, alert int64) impl.EndReport {
	t.Helper()
	return p.check(t, what, impl.PhaseFailed, alert, noAlert)
}

func (p *play) checkOpen(t *testing.T, what string) impl.EndReport {
	t.Helper()
	return p.check(t, what, impl.PhaseOpen, noAlert, noAlert)
}

func eventOf(kind int64, number int64, data string) impl.Event {
	return impl.Event{Kind: kind, Number: number, Data: []byte(data)}
}

func writing(data string) impl.Event {
	return eventOf(impl.EvWrite, 0, data)
}

func closing() impl.Event {
	return eventOf(impl.EvClose, 0, "")
}

func updating(number int64) impl.Event {
	return eventOf(impl.EvUpdate, number, "")
}

func waiting(seconds int64) impl.Event {
	return eventOf(impl.EvTime, seconds, "")
}
