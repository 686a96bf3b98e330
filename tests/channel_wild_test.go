package tests

import (
	"bytes"
	"fmt"
	"math/rand"
	"slices"
	"testing"

	"loop.example/g00004/impl"
)

// Promises 29 and 30: whatever the network does, the ends never disagree, and each reads a beginning of what the other wrote.

type pair struct {
	what   string
	client impl.EndConfig
	server impl.EndConfig
}

func wildPairs() []pair {
	client, server := protocolClient(), protocolServer()
	client.Pad, server.Pad = 9, 30
	return []pair{
		{"a whole handshake", shopClient(), shopServer()},
		{"resumed", backClient(), shopServer()},
		{"early data", earlyClient(), shopServer()},
		{"early data passed over", earlyClient(), noEarlyServer()},
		{"protocols and padding", client, server},
	}
}

// flight is what is on the way to an end behind some steps. One that closes has the last word of its end.
type flight struct {
	to     int64
	closes bool
	ahead  []impl.Step
}

// flights are those of a handshake, of words both ways, of an update and of closing.
func flights() []flight {
	deliver := func(end int64) impl.Step { return deliverAllStep(end) }
	hello := []impl.Step{}
	answer := append(slices.Clone(hello), deliver(serverEnd))
	finished := append(slices.Clone(answer), deliver(clientEnd))
	ticket := append(slices.Clone(finished), deliver(serverEnd))
	words := append(slices.Clone(ticket), deliver(clientEnd), writeStep(clientEnd, "one"), updateStep(clientEnd, 1), writeStep(clientEnd, "two"))
	answers := append(slices.Clone(words), writeStep(serverEnd, "three"), deliver(serverEnd), writeStep(serverEnd, "four"))
	closed := append(slices.Clone(answers), deliver(clientEnd), writeStep(clientEnd, "five"), closeStep(clientEnd))
	last := append(slices.Clone(closed), deliver(serverEnd), writeStep(serverEnd, "six"), closeStep(serverEnd))
	return []flight{{serverEnd, false, hello}, {clientEnd, false, answer}, {serverEnd, false, finished}, {clientEnd, false, ticket}, {serverEnd, false, words},
		{clientEnd, false, answers}, {serverEnd, true, closed}, {clientEnd, true, last}}
}

// behindFlight is what users and network do once they have done something to a flight.
func behindFlight() []impl.Step {
	return []impl.Step{flushStep(), writeStep(clientEnd, "seven"), writeStep(serverEnd, "eight"), closeStep(clientEnd), flushStep(), closeStep(serverEnd), flushStep()}
}

// wayOf is what is on the way that a flight goes.
func (p pair) wayOf(f flight) []byte {
	n := newToldNetwork(p.client, p.server)
	for _, s := range f.ahead {
		n.step(s)
	}
	return n.way(f.to)
}

func (p pair) checkMeddled(t *testing.T, what string, f flight, meddled ...impl.Step) impl.ChannelReport {
	t.Helper()
	return checkHonest(t, p.what+", "+what, p.client, p.server, slices.Concat(f.ahead, meddled, behindFlight())...)
}

// eachPair asks for each pair and each of its flights, all at once.
func eachPair(t *testing.T, check func(t *testing.T, p pair, f flight, r *rand.Rand)) {
	for i, p := range wildPairs() {
		for at, f := range flights() {
			t.Run(fmt.Sprint(p.what, ", flight ", at), func(t *testing.T) {
				t.Parallel()
				check(t, p, f, rand.New(rand.NewSource(int64(530+100*i+at))))
			})
		}
	}
}

// The flights as they are: nothing fails, and all is read.
func TestChannelFlightsUntouched(t *testing.T) {
	t.Parallel()
	for _, p := range wildPairs() {
		for _, f := range flights() {
			r := p.checkMeddled(t, "untouched", f)
			if impl.Agreement(r) != impl.AgreeBoth || !wentWell(r) || len(p.wayOf(f)) == 0 {
				t.Errorf("%s: %s", p.what, channelInShort(r))
			}
		}
	}
}

// wentWell tells whether two ends have come to their end as if nothing were wrong.
func wentWell(r impl.ChannelReport) bool {
	return r.Client.Phase == impl.PhaseClosed && r.Server.Phase == impl.PhaseClosed
}

// isPassedOver tells whether a record of a flight is one of early data that are not taken: nobody misses those.
func (p pair) isPassedOver(f flight, at int) bool {
	return p.server.EarlyMost == 0 && len(f.ahead) == 0 && at > 0
}

// Bytes of each flight are others, all of them if it is short: nothing that comes behind it counts.
func TestPromise29And30EachByte(t *testing.T) {
	t.Parallel()
	const most = 80
	eachPair(t, func(t *testing.T, p pair, f flight, r *rand.Rand) {
		way := p.wayOf(f)
		first := int(recordSizes(way)[0])
		for place := range way {
			if r.Intn(len(way)) > most {
				continue
			}
			got := p.checkMeddled(t, fmt.Sprint("byte ", place, " of ", len(way)), f, flipStep(f.to, int64(place), byte(1+r.Intn(255))))
			if wentWell(got) && !p.isPassedOver(f, place/first) {
				t.Errorf("%s: byte %d is another, and all went well", p.what, place)
			}
		}
	})
}

// recordSizes are those of the whole records of a flight.
func recordSizes(way []byte) []int64 {
	var sizes []int64
	for _, record := range impl.CutRecords(way).Records {
		sizes = append(sizes, int64(3+len(record.Body)))
	}
	return sizes
}

// startOf is where the way of a flight begins in all that the other end has ever sent.
func (p pair) startOf(f flight) int64 {
	n := newToldNetwork(p.client, p.server)
	for _, s := range f.ahead {
		n.step(s)
	}
	return int64(n.gone[f.to])
}

// Each record of each flight is lost, comes twice, comes too late, or is cut off with all that is behind it.
func TestPromise29And30EachRecord(t *testing.T) {
	t.Parallel()
	eachPair(t, func(t *testing.T, p pair, f flight, r *rand.Rand) {
		sizes, start := recordSizes(p.wayOf(f)), p.startOf(f)
		at := int64(0)
		for i, size := range sizes {
			what := fmt.Sprint("record ", i, " of ", len(sizes))
			lost := p.checkMeddled(t, what+" lost", f, deliverStep(f.to, at), dropStep(f.to, size))
			twice := p.checkMeddled(t, what+" twice", f, deliverStep(f.to, at+size), againStep(f.to, start+at, size))
			p.checkMeddled(t, what+" and all behind it lost", f, deliverStep(f.to, at), dropStep(f.to, 65536))
			p.checkMeddled(t, what+" and all behind it twice", f, deliverAllStep(f.to), againStep(f.to, start+at, 65536))
			p.checkMeddled(t, what+", a part of it lost", f, deliverStep(f.to, at+r.Int63n(size)), dropStep(f.to, 1+r.Int63n(size)))
			if i+1 < len(sizes) {
				next := sizes[i+1]
				late := p.checkMeddled(t, what+" too late", f, deliverStep(f.to, at), againStep(f.to, start+at+size, next), deliverStep(f.to, size), dropStep(f.to, next))
				if wentWell(late) {
					t.Errorf("%s, %s: it came too late, and all went well", p.what, what)
				}
			}
			if wentWell(lost) && !p.isPassedOver(f, i) {
				t.Errorf("%s, %s: it was lost, and all went well", p.what, what)
			}
			// What comes behind the last word is not looked at.
			if isLast := f.closes && i == len(sizes)-1; wentWell(twice) && !p.isPassedOver(f, i) && !isLast {
				t.Errorf("%s, %s: it came twice, and all went well", p.what, what)
			}
			at += size
		}
	})
}

// At the beginning of each record something is forged: alerts and other plain records, what the end itself has sent, what
// two others said to each other.
func TestPromise29And30Forged(t *testing.T) {
	t.Parallel()
	others := toldChannel(strangerClient(), strangerServer(), flights()[7].ahead)
	eachPair(t, func(t *testing.T, p pair, f flight, r *rand.Rand) {
		n := newToldNetwork(p.client, p.server)
		for _, s := range f.ahead {
			n.step(s)
		}
		own := n.sentTo(1 - f.to)
		sizes := recordSizes(n.way(f.to))
		at := int64(0)
		for i := range len(sizes) + 1 {
			forged := [][]byte{{21, 0, 1, 0}, {21, 0, 1, byte(r.Intn(256))}, {21, 0, 2, 0, 0}, {22, 0, 4, 5, 0, 0, 0}, {23, 0, 1, 0}, {23, 0, 17}, strange(40), own,
				others.Client.Sent, others.Server.Sent, plainRecord(formOf(impl.Message{Kind: impl.KindUpdate})), randomList(r, 1+r.Intn(60))}
			if len(own) > 0 {
				from := r.Intn(len(own))
				forged = append(forged, own[from:], own[:from])
			}
			for j, data := range forged {
				p.checkMeddled(t, fmt.Sprint("forged ", j, " ahead of record ", i), f, deliverStep(f.to, at), forgeStep(f.to, data...))
			}
			if i < len(sizes) {
				at += sizes[i]
			}
		}
	})
}

// Two others have nothing in common with the shop but the certificates: none of what they seal opens here.
func strangerClient() impl.EndConfig {
	c := shopClient()
	c.Seed = seedNumber(90)
	return c
}

func strangerServer() impl.EndConfig {
	s := shopServer()
	s.Seed, s.TicketKey = seedNumber(91), seedNumber(92)
	return s
}

// wildStep is one of a network that means no good, or now and then of a user.
func wildStep(r *rand.Rand, n *toldNetwork, others impl.ChannelReport) impl.Step {
	end := r.Int63n(2)
	way, sent := n.way(end), n.sentTo(end)
	switch r.Intn(9) {
	case 0:
		return dropStep(end, r.Int63n(int64(len(way))+2))
	case 1:
		if sizes := recordSizes(way); len(sizes) > 0 {
			return dropStep(end, sizes[0])
		}
	case 2:
		return flipStep(end, r.Int63n(int64(len(way))+2), byte(r.Intn(256)))
	case 3:
		return forgeStep(end, randomList(r, r.Intn(30))...)
	case 4:
		return forgeStep(end, toldRecordForm(impl.Record{Kind: 21 + r.Int63n(3), Body: randomList(r, 1+r.Intn(40))})...)
	case 5:
		from := r.Int63n(int64(len(sent)) + 2)
		return againStep(end, from, r.Int63n(int64(len(sent))+2))
	case 6:
		// Whole records come again.
		sizes := recordSizes(sent)
		if len(sizes) > 0 {
			at := r.Intn(len(sizes))
			from := int64(0)
			for _, size := range sizes[:at] {
				from += size
			}
			return againStep(end, from, sizes[at])
		}
	case 7:
		own := n.sentTo(1 - end)
		from := r.Intn(len(own) + 1)
		return forgeStep(end, own[from:]...)
	case 8:
		from := others.Client.Sent
		if end == clientEnd {
			from = others.Server.Sent
		}
		return forgeStep(end, from[:r.Intn(len(from))]...)
	}
	return flushStep()
}

func goodStep(r *rand.Rand) impl.Step {
	end := r.Int63n(2)
	switch r.Intn(10) {
	case 0, 1:
		return impl.Step{Kind: impl.StWrite, End: end, Data: randomList(r, r.Intn(200))}
	case 2:
		return updateStep(end, r.Int63n(2))
	case 3:
		return timeStep(end, r.Int63n(5))
	case 4:
		if r.Intn(8) == 0 {
			return closeStep(end)
		}
	case 5:
		return flushStep()
	}
	return deliverStep(end, []int64{r.Int63n(100), r.Int63n(1000), 65536}[r.Intn(3)])
}

// wildScript makes up to MaxSteps steps, one in so many of them a bad one.
func wildScript(r *rand.Rand, p pair, others impl.ChannelReport, bad int) []impl.Step {
	n := newToldNetwork(p.client, p.server)
	var steps []impl.Step
	fed := 0
	for range 1 + r.Intn(200) {
		s := goodStep(r)
		if r.Intn(bad) == 0 {
			s = wildStep(r, n, others)
		}
		if fed += len(s.Data); fed > 200000 {
			break
		}
		n.step(s)
		steps = append(steps, s)
	}
	return steps
}

func TestPromise29And30Random(t *testing.T) {
	t.Parallel()
	others := toldChannel(strangerClient(), strangerServer(), flights()[7].ahead)
	for _, bad := range []int{2, 6, 20, 60, 150} {
		for _, p := range wildPairs() {
			t.Run(fmt.Sprint(p.what, ", a bad step in ", bad), func(t *testing.T) {
				t.Parallel()
				r := rand.New(rand.NewSource(540 + int64(bad)))
				seen := map[int64]int{}
				for range 30 {
					p.client.Seed, p.server.Seed = seedNumber(r.Intn(4)), seedNumber(20+r.Intn(4))
					got := checkHonest(t, p.what, p.client, p.server, wildScript(r, p, others, bad)...)
					seen[impl.Agreement(got)]++
				}
				if seen[impl.AgreeEnded] == 0 || bad > 50 && seen[impl.AgreeBoth] == 0 {
					t.Errorf("the agreements are %v", seen)
				}
			})
		}
	}
}

// One with keys of its own speaks to the server in the client's place: that is the case which the promises leave out. The
// server is open then for somebody else, and the client has nothing of it.
func TestChannelWithAnIntruder(t *testing.T) {
	t.Parallel()
	n := newToldNetwork(strangerClient(), shopServer())
	hello := n.sentTo(serverEnd)
	n.step(deliverAllStep(serverEnd))
	n.step(deliverAllStep(clientEnd))
	n.step(writeStep(clientEnd, "intruder"))
	rest := n.sentTo(serverEnd)[len(hello):]
	r := checkChannel(t, "an intruder", shopClient(), shopServer(), forgeStep(serverEnd, hello...), forgeStep(serverEnd, rest...))
	if impl.Agreement(r) != impl.AgreeHalf || string(r.Server.Read) != "intruder" || r.Client.Phase != impl.PhaseWaiting {
		t.Errorf("an intruder: %s", channelInShort(r))
	}
	// What the server says to the intruder is nothing to the client.
	r = checkChannel(t, "an intruder, and a flush", shopClient(), shopServer(), forgeStep(serverEnd, hello...), forgeStep(serverEnd, rest...), flushStep())
	if impl.Agreement(r) != impl.AgreeEnded || len(r.Client.Transcript)+len(r.Client.Read) != 0 {
		t.Errorf("an intruder, and a flush: %s", channelInShort(r))
	}
}

// One in the middle answers the client itself: without the key of the certificate there is no proof.
func TestChannelWithOneInTheMiddle(t *testing.T) {
	t.Parallel()
	for _, change := range []func(s *impl.EndConfig){
		func(s *impl.EndConfig) { s.KeySeed = seedNumber(93) },
		func(s *impl.EndConfig) { s.Certs, s.KeySeed = otherChain().chain, otherChain().seeds[0] },
	} {
		middle := strangerServer()
		change(&middle)
		forged := impl.RunEnd(middle, []impl.Event{bytesEvent(impl.RunEnd(shopClient(), nil).Sent)}).Sent
		r := checkChannel(t, "in the middle", shopClient(), shopServer(), forgeStep(clientEnd, forged...), flushStep())
		if impl.Agreement(r) != impl.AgreeEnded || len(r.Client.Transcript) != 0 || len(r.Client.Exporter) != 0 {
			t.Errorf("in the middle: %s", channelInShort(r))
		}
	}
}

// otherChain has the names of the shop, and a root that has only the name of the right one.
func otherChain() chainCase {
	c := goodCase(2)
	for i := range c.seeds {
		c.seeds[i] = seedNumber(94 + i)
	}
	for i := range c.chain {
		c.chain[i].Key = libraryPublic(c.seeds[i])
	}
	return c.signed()
}

// A plain alert of anyone ends a handshake, but nothing that was read or agreed is another for it.
func TestChannelPlainAlerts(t *testing.T) {
	t.Parallel()
	for at, f := range flights() {
		for _, end := range endNumbers() {
			r := checkHonest(t, fmt.Sprint("an alert in flight ", at), shopClient(), shopServer(), append(slices.Clone(f.ahead), forgeStep(end, 21, 0, 1, 40))...)
			clean := checkHonest(t, "none", shopClient(), shopServer(), f.ahead...)
			side, before := sideOf(&r, end), sideOf(&clean, end)
			if side.Phase != impl.PhaseFailed && side.PeerAlert != impl.AlertClose || !bytes.Equal(side.Read, before.Read) || !bytes.Equal(side.Transcript, before.Transcript) {
				t.Errorf("an alert in flight %d: %s", at, channelInShort(r))
			}
			if opened := len(before.Transcript) > 0; opened && side.PeerAlert == 40 {
				t.Errorf("an open end takes a plain alert: %s", channelInShort(r))
			}
		}
	}
}
