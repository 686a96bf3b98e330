package tests

import (
	"bytes"
	"fmt"
	"math/rand"
	"testing"

	"loop.example/g00004/impl"
)

// Ends in a network that does anything with the bytes, held to chapter 17 done another way.

// web is a network between two told ends; it keeps what came to them.
type web struct {
	ends   [2]*playedEnd
	events [2][]impl.Event
	given  [2]int
}

func (w *web) do(to int, event impl.Event) {
	size := len(event.Data)
	for _, old := range w.events[to] {
		size += len(old.Data)
	}
	if len(w.events[to]) >= 400 || size > 200000 {
		return
	}
	event.Data = bytes.Clone(event.Data)
	w.events[to] = append(w.events[to], event)
	w.ends[to].r.Answers = append(w.ends[to].r.Answers, w.ends[to].take(event))
}

func (w *web) bytes(to int, data []byte) {
	w.do(to, impl.Event{Kind: impl.EvBytes, Data: data})
}

// next is what is on the way to an end.
func (w *web) next(to int) []byte {
	return w.ends[1-to].r.Sent[w.given[to]:]
}

// badStep does something that no network should do.
func (w *web) badStep(r *rand.Rand, to int) {
	sent := w.ends[1-to].r.Sent
	switch way := w.next(to); r.Intn(7) {
	case 0:
		w.given[to] += r.Intn(len(way) + 1)
	case 1:
		if len(way) > 0 {
			w.bytes(to, withBit(way, r.Intn(8*len(way))))
			w.given[to] += len(way)
		}
	case 2:
		w.bytes(to, randomList(r, r.Intn(30)))
	case 3:
		from := r.Intn(len(sent) + 1)
		w.bytes(to, sent[from:from+r.Intn(len(sent)-from+1)])
	case 4:
		w.bytes(to, toldRecordForm(impl.Record{Kind: 21 + r.Int63n(3), Body: randomList(r, 1+r.Intn(40))}))
	case 5:
		// It forgets at once that it has said that.
		w.ends[1-to].sendPieces(22, toldMessageForm(randomMessage(r, toldKinds()[r.Intn(9)])), 0)
	case 6:
		w.ends[1-to].send(21+r.Int63n(3), randomList(r, 1+r.Intn(50)), r.Int63n(50))
	}
}

func (w *web) goodStep(r *rand.Rand, to int) {
	switch r.Intn(6) {
	case 0:
		w.do(to, eventOf(impl.EvWrite, 0, string(randomList(r, r.Intn(300)))))
	case 1:
		w.do(to, updating(r.Int63n(2)))
	case 2:
		w.do(to, waiting(r.Int63n(8)))
	case 3:
		if r.Intn(6) == 0 {
			w.do(to, closing())
		}
	default:
		way := w.next(to)
		count := len(way)
		if r.Intn(2) == 0 {
			count = r.Intn(len(way) + 1)
		}
		w.bytes(to, way[:count])
		w.given[to] += count
	}
}

func randomEnds(r *rand.Rand) [2]impl.EndConfig {
	clients := []impl.EndConfig{shopClient(), backClient(), earlyClient(), protocolClient()}
	servers := []impl.EndConfig{shopServer(), noEarlyServer(), protocolServer()}
	client, server := clients[r.Intn(len(clients))], servers[r.Intn(len(servers))]
	client.Seed, client.Pad, server.Pad = seedNumber(r.Intn(4)), r.Int63n(5), r.Int63n(5)
	client.Now += r.Int63n(20)
	if r.Intn(3) == 0 {
		server.Life = 0
	}
	return [2]impl.EndConfig{client, server}
}

// checkWeb makes random steps, one of them in so many a bad one (none of them with 0).
func checkWeb(t *testing.T, r *rand.Rand, steps int, bad int) [2]impl.EndReport {
	t.Helper()
	configs := randomEnds(r)
	w := &web{ends: [2]*playedEnd{playEnd(configs[0]), playEnd(configs[1])}}
	for range steps {
		if bad > 0 && r.Intn(bad) == 0 {
			w.badStep(r, r.Intn(2))
		} else {
			w.goodStep(r, r.Intn(2))
		}
	}
	var reports [2]impl.EndReport
	for i, c := range configs {
		reports[i] = checkRun(t, fmt.Sprint("end ", i, " of a network with a bad step in ", bad), c, w.events[i])
	}
	return reports
}

func TestRandomNetworks(t *testing.T) {
	t.Parallel()
	for _, bad := range []int{0, 5, 12, 40} {
		t.Run(fmt.Sprint("a bad step in ", bad), func(t *testing.T) {
			t.Parallel()
			r := rand.New(rand.NewSource(400 + int64(bad)))
			phases := map[int64]int{}
			for range 150 {
				for _, report := range checkWeb(t, r, 60, bad) {
					phases[report.Phase]++
					if report.Phase == impl.PhaseFailed && report.Alert == noAlert && report.PeerAlert == noAlert {
						t.Errorf("failed without an alert: %s", reportInShort(report))
					}
				}
			}
			if phases[impl.PhaseOpen] == 0 || bad == 0 && (phases[impl.PhaseFailed] > 0 || phases[impl.PhaseClosed] == 0) || bad > 0 && phases[impl.PhaseFailed] == 0 {
				t.Errorf("with a bad step in %d the phases are %v", bad, phases)
			}
		})
	}
}

// Any message with the right keys, one behind the other, at any stage.
func TestRandomMessagesAtEveryStage(t *testing.T) {
	t.Parallel()
	r := rand.New(rand.NewSource(460))
	for _, s := range allStages() {
		for range 12 {
			p := s.build()
			if r.Intn(3) > 0 {
				p.says(realMessage(s))
			}
			for range 1 + r.Intn(4) {
				m := randomMessage(r, toldKinds()[r.Intn(9)])
				if r.Intn(3) == 0 && s.open {
					p.other.say(impl.Message{Kind: impl.KindUpdate, Early: r.Int63n(2)})
					continue
				}
				p.other.sendPieces(22, toldMessageForm(m), 0)
			}
			p.deliver()
			if got := impl.RunEnd(p.config(), p.events); !sameReport(got, p.subject.r) {
				t.Errorf("%s:\ngot  %s\nwant %s", s.what, reportInShort(got), reportInShort(p.subject.r))
			}
		}
	}
}

// One bit of what a real handshake sends is another: the end fails, or goes on as told.
func TestEveryRecordWithAnotherBit(t *testing.T) {
	t.Parallel()
	r := rand.New(rand.NewSource(461))
	for _, play := range []func() *play{
		func() *play { return playClient(backClient(), shopServer()).back().open() },
		func() *play { return playServer(earlyClient(), shopServer()).open() },
		func() *play { return playServer(shopClient(), shopServer()).open() },
	} {
		p := play()
		sent := p.other.r.Sent
		for range 250 {
			bit := r.Intn(8 * len(sent))
			checkRun(t, fmt.Sprint("bit ", bit), p.config(), []impl.Event{bytesEvent(withBit(sent, bit))})
		}
	}
}
