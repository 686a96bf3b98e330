package tests

import (
	"bytes"
	"fmt"
	"slices"
	"testing"

	"loop.example/g00004/impl"
)

// Each kind of step with its answer, and what is on the ways behind it.

// openedBy are steps that open both ends of the shop and leave nothing on the ways, and some more behind them.
func openedBy(steps ...impl.Step) []impl.Step {
	return append([]impl.Step{flushStep()}, steps...)
}

// checkWays asks for how much is on the ways in the end.
func checkWays(t *testing.T, what string, r impl.ChannelReport, toServer int, toClient int) {
	t.Helper()
	if len(r.ToServer) != toServer || len(r.ToClient) != toClient {
		t.Errorf("%s: %d bytes on the way to the server and %d to the client, not %d and %d", what, len(r.ToServer), len(r.ToClient), toServer, toClient)
	}
}

func checkAnswers(t *testing.T, what string, r impl.ChannelReport, want ...int64) {
	t.Helper()
	if !slices.Equal(r.Answers, want) {
		t.Errorf("%s: the answers %v, not %v", what, r.Answers, want)
	}
}

func TestChannelWithoutSteps(t *testing.T) {
	t.Parallel()
	for _, client := range []impl.EndConfig{shopClient(), backClient(), earlyClient(), protocolClient()} {
		r := checkHonest(t, "no steps", client, shopServer())
		checkAnswers(t, "no steps", r)
		checkList(t, "the Hello is on its way", r.ToServer, impl.RunEnd(client, nil).Sent)
		checkList(t, "the Hello was sent", r.Client.Sent, r.ToServer)
		checkWays(t, "no steps", r, len(r.Client.Sent), 0)
		if len(r.ToServer) == 0 || r.Server.Alert != noAlert || r.Client.Phase != impl.PhaseWaiting || impl.Agreement(r) != impl.AgreeNot {
			t.Errorf("no steps: %s", channelInShort(r))
		}
	}
}

// As many bytes are delivered as are on the way, up to the count, and those behind them stay.
func TestChannelDeliver(t *testing.T) {
	t.Parallel()
	hello := impl.RunEnd(shopClient(), nil).Sent
	size := int64(len(hello))
	flight := impl.RunEnd(shopServer(), []impl.Event{bytesEvent(hello)}).Sent
	for _, count := range []int64{0, 1, 2, size - 1, size, size + 1, 65535, 65536} {
		r := checkHonest(t, "to the server", shopClient(), shopServer(), deliverStep(serverEnd, count))
		checkAnswers(t, "to the server", r, 0)
		checkList(t, "what is left", r.ToServer, hello[min(count, size):])
		var sent []byte
		if count >= size {
			sent = flight
		}
		checkList(t, "what comes back", r.ToClient, sent)
	}
	r := checkHonest(t, "nothing on the way", shopClient(), shopServer(), deliverAllStep(clientEnd), deliverStep(clientEnd, 0))
	checkAnswers(t, "nothing on the way", r, 0, 0)
	checkWays(t, "nothing on the way", r, len(hello), 0)
	// Piece by piece it is the same.
	var steps []impl.Step
	for range 100 {
		steps = append(steps, deliverStep(serverEnd, 3), deliverStep(clientEnd, 29))
	}
	whole := checkHonest(t, "as a whole", shopClient(), shopServer(), deliverAllStep(serverEnd), deliverAllStep(clientEnd))
	pieces := checkHonest(t, "in pieces", shopClient(), shopServer(), steps...)
	if pieces.Client.Phase != impl.PhaseOpen || !bytes.Equal(pieces.Client.Sent, whole.Client.Sent) {
		t.Errorf("in pieces: %s", channelInShort(pieces))
	}
}

func TestChannelDrop(t *testing.T) {
	t.Parallel()
	hello := impl.RunEnd(shopClient(), nil).Sent
	size := int64(len(hello))
	for _, count := range []int64{0, 1, size - 1, size, size + 1, 65536} {
		r := checkHonest(t, "dropped", shopClient(), shopServer(), dropStep(serverEnd, count), dropStep(clientEnd, count))
		checkAnswers(t, "dropped", r, 0, 0)
		checkList(t, "what is left", r.ToServer, hello[min(count, size):])
		checkWays(t, "dropped", r, int(max(size-count, 0)), 0)
		if r.Server.Phase != impl.PhaseWaiting || len(r.Server.Sent) != 0 {
			t.Errorf("dropped: %s", channelInShort(r))
		}
	}
	// Where one end has failed, bytes towards it are still lost.
	r := checkHonest(t, "dropped ahead of a failed end", shopClient(), shopServer(), forgeStep(serverEnd, 1), dropStep(serverEnd, 10), dropStep(serverEnd, 65536), dropStep(serverEnd, 1))
	checkAnswers(t, "dropped ahead of a failed end", r, 0, 0, 0, 0)
	checkWays(t, "dropped ahead of a failed end", r, 0, 4)
}

// A byte is changed on the way alone: what was sent stays, and the change goes along when bytes ahead of it are taken.
func TestChannelFlip(t *testing.T) {
	t.Parallel()
	hello := impl.RunEnd(shopClient(), nil).Sent
	size := int64(len(hello))
	for _, place := range []int64{0, 1, size / 2, size - 1} {
		for _, change := range []byte{0, 1, 128, 255} {
			want := bytes.Clone(hello)
			want[place] ^= change
			r := checkHonest(t, "flipped", shopClient(), shopServer(), flipStep(serverEnd, place, change))
			checkAnswers(t, "flipped", r, 0)
			checkList(t, "flipped", r.ToServer, want)
			checkList(t, "sent", r.Client.Sent, hello)
			r = checkHonest(t, "flipped twice", shopClient(), shopServer(), flipStep(serverEnd, place, change), flipStep(serverEnd, place, change))
			checkList(t, "flipped twice", r.ToServer, hello)
			r = checkHonest(t, "flipped, then the beginning lost", shopClient(), shopServer(), flipStep(serverEnd, place, change), dropStep(serverEnd, place))
			checkList(t, "flipped, then the beginning lost", r.ToServer, want[place:])
			r = checkHonest(t, "the beginning lost, then flipped", shopClient(), shopServer(), dropStep(serverEnd, place), flipStep(serverEnd, 0, change))
			checkList(t, "the beginning lost, then flipped", r.ToServer, want[place:])
		}
	}
	for _, place := range []int64{size, size + 1, 65535, 65536} {
		r := checkHonest(t, "no such byte", shopClient(), shopServer(), flipStep(serverEnd, place, 1), flipStep(clientEnd, place, 1), flipStep(clientEnd, 0, 1))
		checkAnswers(t, "no such byte", r, 1, 1, 1)
		checkList(t, "no such byte", r.ToServer, hello)
	}
	// The last byte goes, and there is none any more; the place counts from what is left.
	r := checkHonest(t, "fewer bytes", shopClient(), shopServer(), flipStep(serverEnd, size-1, 1), dropStep(serverEnd, 1), flipStep(serverEnd, size-1, 1), flipStep(serverEnd, size-2, 1))
	checkAnswers(t, "fewer bytes", r, 0, 0, 1, 0)
	checkList(t, "fewer bytes", r.ToServer, hello[1:])
	// No end is asked, so that a failed one plays no part.
	r = checkHonest(t, "failed", shopClient(), shopServer(), forgeStep(serverEnd, 1), flipStep(serverEnd, 0, 1), flipStep(serverEnd, size, 1), flipStep(clientEnd, 3, 1), flipStep(clientEnd, 4, 1))
	checkAnswers(t, "failed", r, 0, 0, 1, 0, 1)
}

// What is forged goes by the way: all that was on it is still there.
func TestChannelForge(t *testing.T) {
	t.Parallel()
	hello := impl.RunEnd(shopClient(), nil).Sent
	r := checkHonest(t, "nothing", shopClient(), shopServer(), forgeStep(serverEnd), forgeStep(clientEnd))
	checkAnswers(t, "nothing", r, 0, 0)
	checkWays(t, "nothing", r, len(hello), 0)
	r = checkHonest(t, "the Hello", shopClient(), shopServer(), forgeStep(serverEnd, hello...), dropStep(serverEnd, 65536), flushStep())
	if impl.Agreement(r) != impl.AgreeBoth {
		t.Errorf("the Hello: %s", channelInShort(r))
	}
	r = checkHonest(t, "the Hello twice", shopClient(), shopServer(), forgeStep(serverEnd, hello...), deliverAllStep(serverEnd), flushStep())
	if r.Server.Alert != impl.AlertUnexpected || r.Client.PeerAlert != impl.AlertUnexpected || impl.Agreement(r) != impl.AgreeEnded {
		t.Errorf("the Hello twice: %s", channelInShort(r))
	}
	for _, end := range endNumbers() {
		for forged, alert := range map[string]int64{"\x00": impl.AlertUnexpected, "\x17\x00\x01\x00": impl.AlertUnexpected, "\x16\xff\xff": impl.AlertOverflow, "\x16\x00\x01\x63": impl.AlertDecode} {
			r := checkHonest(t, "forged", shopClient(), shopServer(), forgeStep(end, []byte(forged)...), forgeStep(end, 1), forgeStep(end))
			checkAnswers(t, "forged", r, 0, 1, 1)
			if sideOf(&r, end).Alert != alert || impl.Agreement(r) != impl.AgreeEnded {
				t.Errorf("forged %x to the end %d: %s", forged, end, channelInShort(r))
			}
		}
	}
	// Half a record that was forged waits for what comes behind it, whoever sends that.
	r = checkHonest(t, "half a record", shopClient(), shopServer(), forgeStep(serverEnd, hello[:40]...), dropStep(serverEnd, 40), flushStep())
	if impl.Agreement(r) != impl.AgreeBoth {
		t.Errorf("half a record: %s", channelInShort(r))
	}
}

// All that was ever sent may come again, as it was sent, be it on the way, delivered, lost or changed.
func TestChannelAgain(t *testing.T) {
	t.Parallel()
	hello := impl.RunEnd(shopClient(), nil).Sent
	size := int64(len(hello))
	for _, ahead := range [][]impl.Step{nil, {dropStep(serverEnd, 65536)}, {dropStep(serverEnd, 20)}, {flipStep(serverEnd, 50, 1)}, {flipStep(serverEnd, 0, 255), dropStep(serverEnd, size-1)}} {
		for _, count := range []int64{size, size + 1, 65536} {
			r := checkHonest(t, "the Hello", shopClient(), shopServer(), append(slices.Clone(ahead), againStep(serverEnd, 0, count), deliverAllStep(clientEnd))...)
			if r.Answers[len(ahead)] != 0 || r.Client.Phase != impl.PhaseOpen {
				t.Errorf("the Hello: %s", channelInShort(r))
			}
		}
	}
	r := checkHonest(t, "in pieces", shopClient(), shopServer(), againStep(serverEnd, 0, 1), againStep(serverEnd, 1, size-2), againStep(serverEnd, size-1, 65536))
	checkAnswers(t, "in pieces", r, 0, 0, 0)
	checkList(t, "in pieces", r.ToServer, hello)
	if len(r.Server.Exporter) == 0 || len(r.ToClient) == 0 {
		t.Errorf("in pieces: %s", channelInShort(r))
	}
	r = checkHonest(t, "without its last byte", shopClient(), shopServer(), againStep(serverEnd, 0, size-1))
	checkWays(t, "without its last byte", r, int(size), 0)
	r = checkHonest(t, "nothing", shopClient(), shopServer(), againStep(serverEnd, 0, 0), againStep(serverEnd, size, 65536), againStep(serverEnd, 65536, 65536), againStep(clientEnd, 0, 65536), againStep(serverEnd, 65536, 0))
	checkAnswers(t, "nothing", r, 0, 0, 0, 0, 0)
	if r.Server.Phase != impl.PhaseWaiting || len(r.Server.Sent) != 0 {
		t.Errorf("nothing: %s", channelInShort(r))
	}
	r = checkHonest(t, "from the second byte on", shopClient(), shopServer(), againStep(serverEnd, 1, 65536))
	if r.Server.Alert != impl.AlertUnexpected {
		t.Errorf("from the second byte on: %s", channelInShort(r))
	}
	// The server's flight comes to the client as often, and what an end itself has sent never.
	r = checkHonest(t, "the flight", shopClient(), shopServer(), deliverAllStep(serverEnd), dropStep(clientEnd, 65536), againStep(clientEnd, 0, 65536), deliverAllStep(serverEnd))
	if impl.Agreement(r) != impl.AgreeBoth {
		t.Errorf("the flight: %s", channelInShort(r))
	}
}

// A flush brings whatever there is, in both directions, until nothing more is sent.
func TestChannelFlush(t *testing.T) {
	t.Parallel()
	for _, client := range []impl.EndConfig{shopClient(), backClient(), earlyClient(), protocolClient()} {
		for _, server := range []impl.EndConfig{shopServer(), noEarlyServer(), protocolServer()} {
			r := checkHonest(t, "a flush", client, server, flushStep())
			checkAnswers(t, "a flush", r, 0)
			checkWays(t, "a flush", r, 0, 0)
			again := checkHonest(t, "two of them", client, server, flushStep(), flushStep())
			again.Answers = again.Answers[1:]
			if !sameChannel(r, again) {
				t.Errorf("a second flush changes something: %s", channelInShort(again))
			}
		}
	}
	// Both ends have failed, and the answer is 0 still; what was on the ways is gone.
	r := checkHonest(t, "failed ends", shopClient(), shopServer(), forgeStep(serverEnd, 1), forgeStep(clientEnd, 1), flushStep())
	checkAnswers(t, "failed ends", r, 0, 0, 0)
	checkWays(t, "failed ends", r, 0, 0)
}

func TestChannelOrders(t *testing.T) {
	t.Parallel()
	for _, end := range endNumbers() {
		orders := []impl.Step{writeStep(end, "words"), updateStep(end, 0), updateStep(end, 1), closeStep(end)}
		r := checkHonest(t, "ahead of the handshake", shopClient(), shopServer(), orders...)
		checkAnswers(t, "ahead of the handshake", r, 1, 1, 1, 1)
		r = checkHonest(t, "open", shopClient(), shopServer(), openedBy(append(orders, orders...)...)...)
		checkAnswers(t, "open", r, 0, 0, 0, 0, 0, 1, 1, 1, 1)
		if sideOf(&r, end).Alert != impl.AlertClose || len(sideOf(&r, 1-end).Read) != 0 {
			t.Errorf("open: %s", channelInShort(r))
		}
		way := [][]byte{r.ToServer, r.ToClient}[end]
		if cut := impl.CutRecords(way); cut.Code != 0 || len(cut.Records) != 4 || len(cut.Rest) != 0 {
			t.Errorf("%d records are on the way from the end %d, not 4", len(cut.Records), end)
		}
		r = checkHonest(t, "an empty write", shopClient(), shopServer(), openedBy(writeStep(end, ""))...)
		checkAnswers(t, "an empty write", r, 0, 0)
		checkWays(t, "an empty write", r, 0, 0)
	}
}

// The client is open earlier than the server, and may write then.
func TestChannelWritesAheadOfTheOther(t *testing.T) {
	t.Parallel()
	r := checkHonest(t, "half open", shopClient(), shopServer(), deliverAllStep(serverEnd), writeStep(serverEnd, "no"), deliverAllStep(clientEnd), writeStep(clientEnd, "yes"), writeStep(serverEnd, "no"), flushStep())
	checkAnswers(t, "half open", r, 0, 1, 0, 0, 1, 0)
	if string(r.Server.Read) != "yes" || len(r.Client.Read) != 0 {
		t.Errorf("half open: %s", channelInShort(r))
	}
}

func TestChannelTime(t *testing.T) {
	t.Parallel()
	for _, end := range endNumbers() {
		for _, seconds := range []int64{0, 1, 4000, 4001, lastTime - 5000, lastTime - 4999, lastTime} {
			r := checkHonest(t, "time", shopClient(), shopServer(), timeStep(end, seconds), timeStep(end, 1), flushStep())
			checkAnswers(t, "time", r, 0, 0, 0)
			if sideOf(&r, end).Now != min(lastTime, 5001+seconds) || sideOf(&r, 1-end).Now != 5000 {
				t.Errorf("%d seconds at the end %d: %s", seconds, end, channelInShort(r))
			}
			// Up to 9000 the leaf is good, and only for the client's clock.
			if isLate := end == clientEnd && 5001+seconds > 9000; isLate != (r.Client.Alert == impl.AlertExpired) {
				t.Errorf("%d seconds at the end %d: %s", seconds, end, channelInShort(r))
			}
		}
	}
}

// A failed end refuses all that it is asked; what does not ask it has its own answer.
func TestChannelStepsAtFailedEnds(t *testing.T) {
	t.Parallel()
	for _, end := range endNumbers() {
		for _, ahead := range [][]impl.Step{{forgeStep(end, 9)}, openedBy(writeStep(1-end, "never read"), forgeStep(end, 9)), {deliverAllStep(serverEnd), forgeStep(end, 9)}} {
			asked := []impl.Step{writeStep(end, "x"), closeStep(end), updateStep(end, 0), updateStep(end, 1), timeStep(end, 0), timeStep(end, 5), forgeStep(end), forgeStep(end, 22),
				againStep(end, 0, 5), againStep(end, 0, 0), deliverStep(end, 0), deliverStep(end, 1), deliverAllStep(end), deliverAllStep(end)}
			r := checkHonest(t, "a failed end", shopClient(), shopServer(), append(slices.Clone(ahead), asked...)...)
			if want := slices.Repeat([]int64{1}, len(asked)); !slices.Equal(r.Answers[len(ahead):], want) {
				t.Errorf("the end %d: the answers %v", end, r.Answers)
			}
			if way := [][]byte{r.ToClient, r.ToServer}[end]; len(way) != 0 {
				t.Errorf("the end %d: %d bytes are still on the way to it", end, len(way))
			}
			if sideOf(&r, end).Now != 5000 || sideOf(&r, end).Phase != impl.PhaseFailed {
				t.Errorf("the end %d: %s", end, channelInShort(r))
			}
			r = checkHonest(t, "not asked", shopClient(), shopServer(), append(slices.Clone(ahead), dropStep(end, 1), flushStep(), flipStep(end, 0, 1))...)
			if want := []int64{0, 0, 1}; !slices.Equal(r.Answers[len(ahead):], want) {
				t.Errorf("not asked: the answers %v, not %v", r.Answers[len(ahead):], want)
			}
		}
	}
}

// More events come to an end than chapter 17 has for one run.
func TestChannelOfManyEvents(t *testing.T) {
	t.Parallel()
	steps := slices.Repeat([]impl.Step{flushStep()}, 197)
	steps = append(steps, writeStep(clientEnd, "late"), writeStep(serverEnd, "later"), flushStep())
	r := checkHonest(t, "many events", shopClient(), shopServer(), steps...)
	if string(r.Server.Read) != "late" || string(r.Client.Read) != "later" || impl.Agreement(r) != impl.AgreeBoth {
		t.Errorf("many events: %s", channelInShort(r))
	}
}

// More bytes come to an end than chapter 17 has for one run, and more are on a way than a step can take.
func TestChannelOfManyBytes(t *testing.T) {
	t.Parallel()
	data := make([]byte, 200000)
	for i := range data {
		data[i] = byte(i * i >> 7)
	}
	for _, end := range endNumbers() {
		client, server := shopClient(), shopServer()
		client.Pad, server.Pad = 256, 256
		r := checkHonest(t, "many bytes", client, server, openedBy(writeStep(end, string(data)), flushStep())...)
		checkList(t, "many bytes", sideOf(&r, 1-end).Read, data)
		if len(sideOf(&r, end).Sent) <= impl.MaxFed || impl.Agreement(r) != impl.AgreeBoth {
			t.Errorf("many bytes: %d were sent: %s", len(sideOf(&r, end).Sent), channelInShort(r))
		}
		// As a step goes, MaxSpan bytes of them at a time.
		r = checkHonest(t, "a span", client, server, openedBy(writeStep(end, string(data)), deliverAllStep(1-end), dropStep(1-end, 65536))...)
		sent := sideOf(&r, end).Sent
		checkList(t, "what is left", [][]byte{r.ToServer, r.ToClient}[end], sent[lengthOf(client, server, end)+2*65536:])
	}
}

// lengthOf is how much an end of two that are open has sent.
func lengthOf(client impl.EndConfig, server impl.EndConfig, end int64) int {
	r := impl.RunChannel(client, server, openedBy())
	return len(sideOf(&r, end).Sent)
}

// Spans of what was sent come again and again, far more than 200000 bytes of them: a closed end passes over them all.
func TestChannelOfManyRepetitions(t *testing.T) {
	t.Parallel()
	steps := openedBy(writeStep(clientEnd, string(make([]byte, 70000))), closeStep(clientEnd), closeStep(serverEnd), flushStep())
	for len(steps) < 199 {
		steps = append(steps, againStep(serverEnd, 0, 65536))
	}
	steps = append(steps, timeStep(serverEnd, 7))
	r := checkHonest(t, "again and again", shopClient(), shopServer(), steps...)
	if len(r.Server.Read) != 70000 || r.Server.Phase != impl.PhaseClosed || r.Server.Now != 5007 || slices.Contains(r.Answers, 1) {
		t.Errorf("again and again: %s", channelInShort(r))
	}
}

// All that two ends send is told in their reports; what is on the ways is the rest of it.
func TestChannelWaysAreTheRest(t *testing.T) {
	t.Parallel()
	steps := []impl.Step{deliverStep(serverEnd, 60), deliverAllStep(serverEnd), deliverStep(clientEnd, 100), deliverAllStep(clientEnd), writeStep(clientEnd, "one"),
		deliverStep(serverEnd, 30), deliverAllStep(serverEnd), writeStep(serverEnd, "two"), updateStep(serverEnd, 1), deliverStep(clientEnd, 400), deliverAllStep(clientEnd), closeStep(clientEnd)}
	for count := range len(steps) + 1 {
		r := checkHonest(t, fmt.Sprint(count, " steps"), shopClient(), shopServer(), steps[:count]...)
		if !bytes.HasSuffix(r.Client.Sent, r.ToServer) || !bytes.HasSuffix(r.Server.Sent, r.ToClient) {
			t.Errorf("%d steps: what is on the ways is not what was sent last: %s", count, channelInShort(r))
		}
	}
}
