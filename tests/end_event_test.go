package tests

import (
	"math"
	"slices"
	"testing"

	"loop.example/g00004/impl"
)

// How much an end takes, and which events it refuses, wherever it stands.

func TestTooManyEvents(t *testing.T) {
	for _, c := range []impl.EndConfig{shopClient(), shopServer(), earlyClient()} {
		for _, count := range []int{0, 1, 399, 400} {
			events := slices.Repeat([]impl.Event{waiting(1)}, count)
			if got := checkRun(t, "events", c, events); got.Fault != 0 || len(got.Answers) != count || got.Now != 5000+int64(count) {
				t.Errorf("%d events: %s", count, reportInShort(got))
			}
		}
		for _, count := range []int{401, 402, 656, 1000} {
			for _, event := range []impl.Event{{}, waiting(1), bytesEvent([]byte{9})} {
				got := checkRun(t, "events", c, slices.Repeat([]impl.Event{event}, count))
				if !sameReport(got, impl.EndReport{Fault: 99}) || got.Alert != 0 || got.PeerAlert != 0 {
					t.Errorf("%d events: %s", count, reportInShort(got))
				}
			}
		}
	}
}

// All data count, those of events too that have no use for them or are refused.
func TestTooManyBytes(t *testing.T) {
	whole := make([]byte, 200001)
	for _, c := range []impl.EndConfig{shopClient(), shopServer()} {
		for _, kind := range []int64{impl.EvBytes, impl.EvWrite, impl.EvClose, impl.EvUpdate, impl.EvTime, 0, -1, 99} {
			for _, cuts := range [][]int{{0}, {1}, {100000}, {1, 2, 3, 199999}, {200000}} {
				for _, size := range []int{200000, 200001} {
					var events []impl.Event
					from := 0
					for _, cut := range append(slices.Clone(cuts), size) {
						events = append(events, impl.Event{Kind: kind, Data: whole[from:cut]})
						from = cut
					}
					got := checkRun(t, "bytes", c, events)
					if want := int64(99 * (size - 200000)); got.Fault != want || want != 0 && !sameReport(got, impl.EndReport{Fault: 99}) {
						t.Errorf("%d bytes in %d events of kind %d: %s", size, len(events), kind, reportInShort(got))
					}
				}
			}
		}
	}
}

// An end that is open reads as many bytes as it may be fed.
func TestMostBytesAreRead(t *testing.T) {
	p := playServer(shopClient(), shopServer()).open()
	fed := len(p.events[0].Data) + len(p.events[1].Data) + len(p.events[2].Data)
	p.other.sendPieces(23, make([]byte, (200000-fed)/2068*2048), 0)
	p.deliver()
	got := p.checkOpen(t, "many bytes")
	if len(got.Read) < 190000 {
		t.Errorf("%d bytes were read", len(got.Read))
	}
}

// situation is a place where an end may stand.
type situation struct {
	what     string
	play     *play
	mayWrite bool
	failed   bool
}

// records brings the next so many records of those that the other end has sent.
func (p *play) records(count int) *play {
	for range count {
		first := impl.CutRecords(p.other.r.Sent[p.heard:]).Records[0]
		size := 3 + len(first.Body)
		data := p.other.r.Sent[p.heard : p.heard+size]
		p.heard += size
		p.bytes(slices.Clone(data))
	}
	return p
}

func waitingSituations() []situation {
	var all []situation
	for count := range 5 {
		all = append(all, situation{what: "client behind so many records", play: playClient(shopClient(), shopServer()).back().records(count)})
	}
	for count := range 3 {
		all = append(all, situation{what: "client with early data behind so many records", play: playClient(earlyClient(), shopServer()).back().records(count)})
	}
	for count := range 2 {
		all = append(all, situation{what: "server behind so many records", play: playServer(shopClient(), shopServer()).records(count)})
		refusing := shopServer()
		refusing.EarlyMost = 0
		all = append(all, situation{what: "server that passes over, behind so many records", play: playServer(earlyClient(), refusing).records(count + 1)})
	}
	for count := range 2 {
		p := playServer(earlyClient(), shopServer()).records(count + 1)
		all = append(all, situation{what: "server that reads early data", play: p})
	}
	p := playServer(earlyClient(), shopServer()).records(2).back().records(1)
	return append(all, situation{what: "server behind the end of early data", play: p})
}

func openClient() *play {
	return playClient(shopClient(), shopServer()).back().open()
}

func openServer() *play {
	return playServer(shopClient(), shopServer()).open()
}

func openSituations() []situation {
	var all []situation
	for _, open := range []func() *play{openClient, openServer} {
		closed := open().do(closing())
		left := open().sends(21, []byte{0})
		all = append(all,
			situation{what: "open", play: open(), mayWrite: true},
			situation{what: "closed by this end", play: closed},
			situation{what: "closed by the other end", play: left, mayWrite: true},
			situation{what: "closed by both, this end first", play: open().do(closing()).sends(21, []byte{0})},
			situation{what: "closed by both, the other end first", play: open().sends(21, []byte{0}).do(closing())},
			situation{what: "failed", play: open().bytes([]byte{9}), failed: true},
			situation{what: "failed by the other end", play: open().sends(21, []byte{51}), failed: true},
			situation{what: "failed behind closing", play: open().do(closing()).bytes([]byte{9}), failed: true},
		)
	}
	for _, fresh := range []*play{playClient(shopClient(), shopServer()), playServer(shopClient(), shopServer())} {
		all = append(all, situation{what: "failed at once", play: fresh.bytes([]byte{21, 0, 1, 0}), failed: true})
	}
	return all
}

func (s situation) refuses(event impl.Event) bool {
	switch event.Kind {
	case impl.EvBytes:
		return s.failed
	case impl.EvTime:
		return s.failed || event.Number < 0 || event.Number > lastTime
	case impl.EvWrite, impl.EvClose:
		return !s.mayWrite
	case impl.EvUpdate:
		return !s.mayWrite || event.Number != 0 && event.Number != 1
	}
	return true
}

func manyEvents() []impl.Event {
	events := []impl.Event{writing("x"), writing(""), closing(), bytesEvent(), bytesEvent([]byte{23})}
	for _, number := range []int64{-1, 0, 1, 2, 3, 256, 257, math.MaxInt64, math.MinInt64} {
		events = append(events, updating(number), eventOf(impl.EvWrite, number, "y"), eventOf(impl.EvClose, number, "z"))
	}
	for _, number := range []int64{-1, math.MinInt64, 0, 1, lastTime - 1, lastTime, lastTime + 1, math.MaxInt64} {
		events = append(events, waiting(number), eventOf(impl.EvTime, number, "data"))
	}
	for _, kind := range []int64{0, -1, 6, 7, 10, 257, 258, 259, 260, 261, 1 << 32, math.MaxInt64, math.MinInt64} {
		events = append(events, impl.Event{Kind: kind}, eventOf(kind, 1, "data"))
	}
	return events
}

func TestEventsAreRefused(t *testing.T) {
	for _, s := range append(waitingSituations(), openSituations()...) {
		before := impl.RunEnd(s.play.config(), s.play.events)
		if (before.Phase == impl.PhaseFailed) != s.failed || s.mayWrite && before.Phase != impl.PhaseOpen {
			t.Fatalf("%s: phase %d", s.what, before.Phase)
		}
		for _, event := range manyEvents() {
			got := checkRun(t, s.what, s.play.config(), append(slices.Clone(s.play.events), event))
			answer := got.Answers[len(got.Answers)-1]
			if (answer == 1) != s.refuses(event) || answer != 0 && answer != 1 {
				t.Errorf("%s, an event of kind %d and number %d: the answer %d", s.what, event.Kind, event.Number, answer)
			}
			if answer == 1 && !sameBesides(got, before) {
				t.Errorf("%s, a refused event of kind %d and number %d changes\n%s\nto\n%s", s.what, event.Kind, event.Number, reportInShort(before), reportInShort(got))
			}
		}
	}
}

// An end that has failed refuses all that comes, and its report is as before but for the answers; it has an alert.
func TestFailedEndsStay(t *testing.T) {
	for _, s := range openSituations() {
		if !s.failed {
			continue
		}
		before := impl.RunEnd(s.play.config(), s.play.events)
		if before.Alert == noAlert && before.PeerAlert == noAlert || before.Phase != impl.PhaseFailed {
			t.Errorf("%s: %s", s.what, reportInShort(before))
		}
		// All that the other end could say, too.
		s.play.other.send(23, []byte("more"), 0)
		s.play.other.send(21, []byte{0}, 0)
		events := append(slices.Clone(s.play.events), manyEvents()...)
		events = append(events, bytesEvent(s.play.other.r.Sent), bytesEvent(s.play.other.r.Sent[s.play.heard:]))
		got := impl.RunEnd(s.play.config(), events)
		if !sameBesides(got, before) || slices.Contains(got.Answers[len(s.play.events):], 0) {
			t.Errorf("%s changes\n%s\nto\n%s", s.what, reportInShort(before), reportInShort(got))
		}
	}
}

func TestTimeStopsAtItsEnd(t *testing.T) {
	for _, one := range []struct {
		now     int64
		seconds []int64
		want    int64
	}{
		{5000, []int64{7}, 5007},
		{5000, []int64{0, 0}, 5000},
		{0, []int64{lastTime}, lastTime},
		{5000, []int64{lastTime}, lastTime},
		{lastTime, []int64{0}, lastTime},
		{lastTime, []int64{1, lastTime}, lastTime},
		{lastTime - 3, []int64{2}, lastTime - 1},
		{lastTime - 3, []int64{2, 2}, lastTime},
		{5000, []int64{-1, 4, lastTime + 1, math.MaxInt64, 5}, 5009},
	} {
		for _, c := range []impl.EndConfig{shopClient(), shopServer()} {
			c.Now = one.now
			var events []impl.Event
			for _, seconds := range one.seconds {
				events = append(events, waiting(seconds))
			}
			if got := checkRun(t, "time", c, events); got.Now != one.want {
				t.Errorf("from %d on by %v: %d, not %d", one.now, one.seconds, got.Now, one.want)
			}
		}
	}
}

// A certificate is asked for when it comes, a ticket when it is offered, and what is saved when the ticket comes.
func TestTimeCounts(t *testing.T) {
	for seconds, alert := range map[int64]int64{0: noAlert, 4000: noAlert, 4001: impl.AlertExpired} {
		p := playClient(shopClient(), shopServer()).back().do(waiting(seconds)).deliver()
		if alert == noAlert {
			p.checkOpen(t, "in time")
		} else {
			p.checkFails(t, "too late", alert)
		}
	}
	for seconds, resumed := range map[int64]bool{0: true, 400: true, 401: false} {
		p := playServer(backClient(), shopServer()).do(waiting(seconds)).open()
		if got := p.checkOpen(t, "offered"); got.Resumed != resumed {
			t.Errorf("behind %d seconds: resumed %v", seconds, got.Resumed)
		}
	}
	for seconds, taken := range map[int64]bool{0: true, 10: true, 11: false} {
		p := playServer(earlyClient(), shopServer()).do(waiting(seconds)).open()
		got := p.checkOpen(t, "early")
		if got.EarlyTaken != taken || taken && got.Window.Marks[0].Until != 5020+seconds {
			t.Errorf("behind %d seconds: %s", seconds, reportInShort(got))
		}
	}
	p := playServer(shopClient(), shopServer()).deliver().back().do(waiting(9)).deliver().back()
	p.checkOpen(t, "ticket")
	state := impl.OpenTicket(p.config().TicketKey, p.other.r.Saved.Ticket).State
	if state.Made != 5009 || p.other.r.Saved.Got != 5000 {
		t.Errorf("the ticket was made at %d, and got at %d", state.Made, p.other.r.Saved.Got)
	}
}
