package tests

import (
	"bytes"
	"fmt"
	"slices"
	"testing"

	"loop.example/g00004/impl"
)

// RunWorld: what a connection begins with, and what goes on behind it.

// lost is a network that lets nothing of a Hello come to the server.
func lost() impl.Step {
	return dropStep(serverEnd, 65536)
}

func TestWorldWithoutConnections(t *testing.T) {
	t.Parallel()
	for _, client := range []impl.EndConfig{shopClient(), backClient(), withoutEarly(protocolClient())} {
		for _, window := range []impl.Window{{}, {Width: 86400}, windowOf(10, 6000, 1, 4999), windowOf(3, sameUntils(64, 0)...)} {
			server := shopServer()
			server.Window = window
			r := checkWorld(t, "no connections", worldOf(client, server))
			if len(r.Channels) != 0 || !sameSaved(r.Saved, client.Saved) || !sameWindow(r.Window, window) {
				t.Errorf("no connections: %s", worldInShort(r))
			}
		}
	}
}

// One connection is a channel of the two configurations, with the seeds of the connection and its early data.
func TestWorldOfOneConnection(t *testing.T) {
	t.Parallel()
	for _, p := range wildPairs() {
		early := p.client.Early
		p.client = withoutEarly(p.client)
		for _, steps := range [][]impl.Step{nil, backSteps(), {lost(), flushStep()}, {flushStep(), timeStep(clientEnd, 7), timeStep(serverEnd, 9), closeStep(serverEnd)}, {forgeStep(clientEnd, 9), flushStep()}} {
			w := worldOf(p.client, p.server, visit(20, string(early), steps...))
			r := checkWorld(t, p.what, w)
			client, server := p.client, p.server
			client.Now, client.Seed, client.Early = 5020, w.Connections[0].Seed, early
			server.Now, server.Seed = 5020, impl.Expand(client.Seed, []byte("server"), 32)
			if want := impl.RunChannel(client, server, steps); !sameChannel(r.Channels[0], want) {
				t.Errorf("%s:\ngot  %s\nwant %s", p.what, channelInShort(r.Channels[0]), channelInShort(want))
			}
		}
	}
}

// checkClocks asks for the clocks of both ends behind each connection; of a copy's client there is none to be seen.
func checkClocks(t *testing.T, what string, w impl.World, want ...[2]int64) {
	t.Helper()
	r := checkWorld(t, what, w)
	for i, c := range r.Channels {
		clock := want[i]
		if toldIsCopy(w.Connections[i]) {
			clock[clientEnd] = 0
		}
		if c.Client.Now != clock[clientEnd] || c.Server.Now != clock[serverEnd] {
			t.Errorf("%s: behind connection %d the clocks are at %d and %d, not at %d and %d", what, i, c.Client.Now, c.Server.Now, clock[clientEnd], clock[serverEnd])
		}
	}
}

func clocksOf(client int64, server int64, list ...impl.Connection) impl.World {
	w := shopWorld(list...)
	w.Client.Now, w.Server.Now = client, server
	return w
}

func TestWorldClocks(t *testing.T) {
	t.Parallel()
	checkClocks(t, "gaps", clocksOf(5000, 5000, flushed(0, ""), flushed(3, ""), flushed(0, ""), flushed(40, "")),
		[2]int64{5000, 5000}, [2]int64{5003, 5003}, [2]int64{5003, 5003}, [2]int64{5043, 5043})
	checkClocks(t, "a gap ahead of the first", clocksOf(5000, 5000, flushed(7, "")), [2]int64{5007, 5007})
	checkClocks(t, "clocks that go apart", clocksOf(4000, 6000, flushed(1, ""), flushed(1, "e")), [2]int64{4001, 6001}, [2]int64{4002, 6002})
	checkClocks(t, "time within", clocksOf(5000, 5000, flushed(1, "", timeStep(clientEnd, 20)), flushed(2, "", timeStep(serverEnd, 300), timeStep(serverEnd, 1)), visit(3, "", timeStep(clientEnd, 5), flushStep()), flushed(4, "")),
		[2]int64{5021, 5001}, [2]int64{5023, 5304}, [2]int64{5031, 5307}, [2]int64{5035, 5311})
	checkClocks(t, "nothing delivered", clocksOf(5000, 5000, visit(1, "", timeStep(clientEnd, 2), timeStep(serverEnd, 3)), visit(4, "", lost())), [2]int64{5003, 5004}, [2]int64{5007, 5008})
	// At an end that has failed no time goes by within a connection; the gap does.
	checkClocks(t, "failed ends", clocksOf(5000, 5000, visit(1, "", forgeStep(serverEnd, 9), timeStep(serverEnd, 50), timeStep(clientEnd, 6)), flushed(2, "")), [2]int64{5007, 5001}, [2]int64{5009, 5003})
}

// The gap ahead of a copy goes by at both ends, and nothing else does.
func TestWorldClocksAtCopies(t *testing.T) {
	t.Parallel()
	checkClocks(t, "copies", clocksOf(5000, 5100, flushed(1, "", timeStep(clientEnd, 10)), copyOf(0, 4), copyOf(0, 0), copyOf(0, 30), flushed(2, "")),
		[2]int64{5011, 5101}, [2]int64{0, 5105}, [2]int64{0, 5105}, [2]int64{0, 5135}, [2]int64{5047, 5137})
	// The age that the client says counts the gaps of the copies too.
	r := checkWorld(t, "the age", shopWorld(flushed(0, ""), copyOf(0, 100), copyOf(0, 400), flushed(0, "early")))
	if last := r.Channels[3]; !last.Client.Resumed || !last.Server.EarlyTaken {
		t.Errorf("the age: %s", channelInShort(last))
	}
	r = checkWorld(t, "the age", shopWorld(flushed(0, ""), copyOf(0, 100), copyOf(0, 401), flushed(0, "early")))
	if last := r.Channels[3]; last.Client.Resumed || last.Server.EarlyTaken {
		t.Errorf("the age: %s", channelInShort(last))
	}
}

// No clock goes beyond the last time, whichever comes there first and by what.
func TestWorldClocksAtTheEnd(t *testing.T) {
	t.Parallel()
	checkClocks(t, "up to the end", clocksOf(lastTime-5, lastTime-5, visit(5, ""), visit(1, ""), visit(0, ""), visit(lastTime, "")),
		[2]int64{lastTime, lastTime}, [2]int64{lastTime, lastTime}, [2]int64{lastTime, lastTime}, [2]int64{lastTime, lastTime})
	checkClocks(t, "over the end", clocksOf(lastTime-5, lastTime-7, visit(4, ""), visit(2, ""), visit(2, "")),
		[2]int64{lastTime - 1, lastTime - 3}, [2]int64{lastTime, lastTime - 1}, [2]int64{lastTime, lastTime})
	checkClocks(t, "with a copy", clocksOf(lastTime-5, 5000, visit(4, ""), copyOf(0, 3), copyOf(0, lastTime), visit(1, "")),
		[2]int64{lastTime - 1, 5004}, [2]int64{0, 5007}, [2]int64{0, lastTime}, [2]int64{lastTime, lastTime})
	checkClocks(t, "all at once", clocksOf(0, 1, visit(lastTime, ""), visit(lastTime, "", timeStep(clientEnd, lastTime))), [2]int64{lastTime, lastTime}, [2]int64{lastTime, lastTime})
	checkClocks(t, "by a step", clocksOf(5000, 5000, visit(0, "", timeStep(clientEnd, lastTime)), visit(9, "")), [2]int64{lastTime, 5000}, [2]int64{lastTime, 5009})
	checkClocks(t, "the least gap", clocksOf(0, 0, visit(0, ""), visit(1, "")), [2]int64{0, 0}, [2]int64{1, 1})
}

// ticketOfHello is the ticket that a client offered.
func ticketOfHello(t *testing.T, r impl.ChannelReport) []byte {
	t.Helper()
	m := impl.DecodeMessage([]byte(helloOf(r)), 0)
	if m.Code != 0 || m.Message.Kind != impl.KindHello {
		t.Fatalf("no Hello: %s", channelInShort(r))
	}
	return m.Message.Ticket
}

// checkOffers asks from which connections the tickets come that are offered in each; -1 is the configuration, -2 none at
// all. Behind the last one stands the ticket that is left.
func checkOffers(t *testing.T, what string, w impl.World, want ...int) impl.WorldReport {
	t.Helper()
	r := checkWorld(t, what, w)
	ticketOf := func(from int) []byte {
		switch {
		case from >= 0:
			return r.Channels[from].Client.Saved.Ticket
		case from == -1:
			return w.Client.Saved.Ticket
		}
		return nil
	}
	for i, c := range r.Channels {
		if !toldIsCopy(w.Connections[i]) {
			checkList(t, fmt.Sprint(what, ": offered in connection ", i), ticketOfHello(t, c), ticketOf(want[i]))
		}
	}
	checkList(t, what+": left", r.Saved.Ticket, ticketOf(want[len(want)-1]))
	return r
}

// A ticket stays the one that is saved up to the next one that comes.
func TestWorldSavedTicket(t *testing.T) {
	t.Parallel()
	checkOffers(t, "each gives one", shopWorld(flushed(0, ""), flushed(1, ""), flushed(1, "")), -2, 0, 1, 2)
	checkOffers(t, "one was saved", worldOf(backClient(), shopServer(), flushed(0, ""), flushed(1, "")), -1, 0, 1)
	checkOffers(t, "one was saved, and nothing comes", worldOf(backClient(), shopServer(), visit(0, "", lost()), visit(1, ""), copyOf(0, 1), flushed(1, "")), -1, -1, -2, -1, 3)
	checkOffers(t, "the second is lost", shopWorld(flushed(0, ""), visit(1, "", lost()), flushed(1, ""), visit(1, ""), flushed(1, "")), -2, 0, 0, 2, 2, 4)
	checkOffers(t, "the second fails", shopWorld(flushed(0, ""), visit(1, "", flipStep(serverEnd, 60, 1), flushStep()), flushed(1, "")), -2, 0, 0, 2)
	checkOffers(t, "copies between them", shopWorld(flushed(0, ""), copyOf(0, 1), flushed(1, ""), copyOf(2, 1), copyOf(0, 1), flushed(1, "")), -2, -2, 0, -2, -2, 2, 5)
	// Open at both ends, but what the server sent last is lost.
	steps := []impl.Step{deliverAllStep(serverEnd), deliverAllStep(clientEnd), deliverAllStep(serverEnd), dropStep(clientEnd, 65536)}
	r := checkOffers(t, "the ticket itself is lost", shopWorld(flushed(0, ""), visit(1, "", steps...), flushed(1, "")), -2, 0, 0, 2)
	if impl.Agreement(r.Channels[1]) != impl.AgreeBoth {
		t.Errorf("the ticket itself is lost: %s", channelInShort(r.Channels[1]))
	}
	// What came ahead of a failure counts.
	checkOffers(t, "failed later", shopWorld(flushed(0, ""), flushed(1, "", forgeStep(clientEnd, 9)), flushed(1, "")), -2, 0, 1, 2)
	// One that is not offered any more is still saved.
	checkOffers(t, "too old", shopWorld(flushed(0, ""), visit(501, "", lost())), -2, -2, 0)
	none := shopServer()
	none.Life = 0
	checkOffers(t, "the server gives none", worldOf(shopClient(), none, flushed(0, ""), flushed(1, "")), -2, -2, -2)
	checkOffers(t, "the server gives none, one was saved", worldOf(backClient(), none, flushed(0, ""), flushed(1, "")), -1, -1, -1)
}

// All of what is saved goes on, not the ticket alone.
func TestWorldSavedWhole(t *testing.T) {
	t.Parallel()
	r := checkWorld(t, "all of it", worldOf(withoutEarly(protocolClient()), protocolServer(), flushed(10, ""), visit(5, "", lost())))
	want := r.Channels[0].Client.Saved
	if !sameSaved(r.Saved, want) || want.Got != 5010 || want.Life != 500 || want.Host != shopHost || want.Early != 4096 || want.Protocol != r.Channels[0].Client.Protocol || want.Protocol == "" {
		t.Errorf("all of it: %s", savedInShort(r.Saved))
	}
	r = checkWorld(t, "that of the configuration", worldOf(backClient(), shopServer(), visit(5, "", lost())))
	if !sameSaved(r.Saved, backClient().Saved) || len(r.Channels[0].Client.Saved.Ticket) != 0 {
		t.Errorf("that of the configuration: %s", savedInShort(r.Saved))
	}
}

// randomOf is what a first message says that its sender made of its seed.
func randomOf(t *testing.T, sent []byte) []byte {
	t.Helper()
	cut := impl.CutRecords(sent)
	if len(cut.Records) == 0 {
		t.Fatal("nothing was sent")
	}
	return impl.DecodeMessage(cut.Records[0].Body, 0).Message.Random
}

// Both ends make what is random of the connection's seed, and not the same; those of the configurations play no part.
func TestWorldSeeds(t *testing.T) {
	t.Parallel()
	w := shopWorld(flushed(0, ""), flushed(1, "early"), copyOf(1, 1), copyOf(0, 1), flushed(1, ""))
	r := checkWorld(t, "seeds", w)
	seen := map[string]int{}
	for i, c := range r.Channels {
		seed := w.Connections[i].Seed
		server := randomOf(t, c.Server.Sent)
		checkList(t, fmt.Sprint("random of server ", i), server, impl.Expand(impl.Expand(seed, []byte("server"), 32), []byte("random"), 32))
		seen[string(server)]++
		if !toldIsCopy(w.Connections[i]) {
			client := randomOf(t, c.Client.Sent)
			checkList(t, fmt.Sprint("random of client ", i), client, impl.Expand(seed, []byte("random"), 32))
			seen[string(client)]++
		}
	}
	if len(seen) != 8 {
		t.Errorf("%d different random lists of 8", len(seen))
	}
	w.Client.Seed, w.Server.Seed = full(32), make([]byte, 32)
	if again := checkWorld(t, "other seeds", w); !sameWorldReport(again, r) {
		t.Errorf("with other seeds of the configurations:\ngot  %s\nwant %s", worldInShort(again), worldInShort(r))
	}
	w.Connections[2].Seed = full(32)
	if again := checkWorld(t, "another seed of a copy", w); bytes.Equal(again.Channels[2].Server.Sent, r.Channels[2].Server.Sent) || !sameChannel(again.Channels[4], r.Channels[4]) {
		t.Errorf("with another seed of a copy: %s", worldInShort(again))
	}
}

// untilsOf are the ends of the marks of a window, in their order.
func untilsOf(w impl.Window) []int64 {
	var untils []int64
	for _, mark := range w.Marks {
		untils = append(untils, mark.Until)
	}
	return untils
}

// checkWindows asks for the ends of the marks behind each connection; those behind the last one are left.
func checkWindows(t *testing.T, what string, w impl.World, want ...[]int64) {
	t.Helper()
	r := checkWorld(t, what, w)
	for i, c := range r.Channels {
		if !slices.Equal(untilsOf(c.Server.Window), want[i]) || c.Server.Window.Width != w.Server.Window.Width {
			t.Errorf("%s: behind connection %d the window is %s, not %v", what, i, windowInShort(c.Server.Window), want[i])
		}
	}
	if last := len(r.Channels) - 1; !sameWindow(r.Window, r.Channels[last].Server.Window) {
		t.Errorf("%s: the window that is left is %s", what, windowInShort(r.Window))
	}
}

// The window goes on behind every connection, whatever has become of it.
func TestWorldWindow(t *testing.T) {
	t.Parallel()
	none := []int64(nil)
	checkWindows(t, "two marks", shopWorld(flushed(0, ""), flushed(1, "one"), flushed(2, "two"), flushed(3, ""), visit(4, "", lost())),
		none, []int64{5021}, []int64{5021, 5023}, []int64{5021, 5023}, []int64{5021, 5023})
	// A mark is forgotten only when the window is asked, and that it is only with early data that fit.
	checkWindows(t, "forgotten when it is asked", shopWorld(flushed(0, ""), flushed(1, "one"), flushed(100, ""), flushed(1, "two")), none, []int64{5021}, []int64{5021}, []int64{5122})
	checkWindows(t, "just not forgotten", shopWorld(flushed(0, ""), flushed(1, "one"), flushed(20, "two"), flushed(1, "three")), none, []int64{5021}, []int64{5021, 5041}, []int64{5041, 5042})
	server := shopServer()
	server.Window = windowOf(10, 6000, 4999, 5005)
	checkWindows(t, "marks from the beginning", worldOf(backClient(), server, flushed(0, ""), copyOf(0, 1), flushed(4, "early"), flushed(1, "early")),
		[]int64{6000, 4999, 5005}, []int64{6000, 4999, 5005}, []int64{6000, 5005, 5025}, []int64{6000, 5025, 5026})
}

func TestWorldWindowBehindACopy(t *testing.T) {
	t.Parallel()
	none := []int64(nil)
	// Of a Hello that never came to the server the first copy is taken.
	checkWindows(t, "a copy makes a mark", shopWorld(flushed(0, ""), visit(1, "one", lost()), copyOf(1, 2), copyOf(1, 3), flushed(1, "two")),
		none, none, []int64{5023}, []int64{5023}, []int64{5023, 5027})
	// A copy asks the window too where it is not taken.
	checkWindows(t, "a copy forgets", shopWorld(flushed(0, ""), flushed(1, "one"), visit(5, "two", lost()), copyOf(2, 0), flushed(9, "three"), copyOf(2, 9)),
		none, []int64{5021}, []int64{5021}, []int64{5021, 5026}, []int64{5021, 5026, 5035}, []int64{5021, 5026, 5035})
	checkWindows(t, "a copy without early data", shopWorld(flushed(0, ""), flushed(1, "one"), copyOf(0, 50), flushed(1, "")), none, []int64{5021}, []int64{5021}, []int64{5021})
}

func TestWorldWindowBehindAFailure(t *testing.T) {
	t.Parallel()
	none := []int64(nil)
	hello := int64(len(helloOf(impl.RunWorld(shopWorld(flushed(0, ""), flushed(1, "one"))).Channels[1]))) + 3
	// The Hello fits, and behind it the server fails: the mark was made, and stays.
	checkWindows(t, "failed behind the Hello", shopWorld(flushed(0, ""), visit(1, "one", deliverStep(serverEnd, hello), forgeStep(serverEnd, 9)), flushed(2, "two"), copyOf(1, 1)),
		none, []int64{5021}, []int64{5021, 5023}, []int64{5021, 5023})
	checkWindows(t, "early data that do not open", shopWorld(flushed(0, ""), visit(1, "one", flipStep(serverEnd, hello+5, 1), flushStep()), copyOf(1, 1)), none, []int64{5021}, []int64{5021})
	// The Hello does not fit: nothing was asked.
	checkWindows(t, "failed at the Hello", shopWorld(flushed(0, ""), visit(1, "one", flipStep(serverEnd, hello-1, 1), flushStep()), copyOf(1, 1), copyOf(1, 1)), none, none, []int64{5022}, []int64{5022})
	checkWindows(t, "failed ahead of the Hello", shopWorld(flushed(0, ""), flushed(1, "one"), visit(1, "two", forgeStep(serverEnd, 9), flushStep()), flushed(1, "three")), none, []int64{5021}, []int64{5021}, []int64{5021, 5023})
}

// The report of a copy is that of a server with one event.
func TestWorldCopy(t *testing.T) {
	t.Parallel()
	for what, original := range map[string]impl.Connection{
		"a whole handshake":  flushed(1, ""),
		"early data":         flushed(1, "early"),
		"nothing delivered":  visit(1, "early", lost()),
		"no steps at all":    visit(1, ""),
		"words and an end":   flushed(1, "early", writeStep(clientEnd, "words"), updateStep(clientEnd, 1), closeStep(clientEnd), flushStep()),
		"a client that fell": visit(1, "", deliverAllStep(serverEnd), flipStep(clientEnd, 50, 1), flushStep()),
		"nothing and a fall": visit(1, "early", forgeStep(clientEnd, 9)),
	} {
		for place := range int64(2) {
			list := []impl.Connection{flushed(0, ""), flushed(0, "")}
			list[place] = original
			w := shopWorld(append(list, copyOf(place, 3), copyOf(1-place, 9))...)
			w.Server.Window = windowOf(10, 6000)
			r := checkWorld(t, what, w)
			server := w.Server
			server.Seed, server.Now, server.Window = impl.Expand(w.Connections[2].Seed, []byte("server"), 32), r.Channels[1].Server.Now+3, r.Channels[1].Server.Window
			want := impl.RunEnd(server, []impl.Event{bytesEvent(r.Channels[place].Client.Sent)})
			want.Answers = nil
			got := r.Channels[2]
			if !sameReport(got.Server, want) || len(got.ToClient) == 0 {
				t.Errorf("%s: a copy of %d:\ngot  %s\nwant %s", what, place, reportInShort(got.Server), reportInShort(want))
			}
		}
	}
}

// Where a copy has the seed of what it copies, the server says the same again, and all that the client said fits: only what
// was early differs, as that is taken once.
func TestWorldCopyWithTheSameSeed(t *testing.T) {
	t.Parallel()
	for early, phase := range map[string]int64{"": impl.PhaseOpen, "early": impl.PhaseFailed} {
		w := shopWorld(flushed(0, ""), flushed(1, early, writeStep(clientEnd, "words"), flushStep()), copyOf(1, 0))
		w.Connections[2].Seed = w.Connections[1].Seed
		r := checkWorld(t, "the same seed", w)
		if got := r.Channels[2].Server; got.Phase != phase || got.EarlyTaken || (string(got.Read) == "words") != (phase == impl.PhaseOpen) {
			t.Errorf("the same seed, early %q: %s", early, reportInShort(got))
		}
	}
}

// A client may have sent more than an end may be fed with by itself: a copy has it all.
func TestWorldCopyOfMuch(t *testing.T) {
	t.Parallel()
	much := flushed(0, "", impl.Step{Kind: impl.StWrite, End: clientEnd, Data: make([]byte, 200000)})
	w := shopWorld(flushed(0, ""), much, copyOf(1, 1), flushed(1, "early"))
	w.Client.Pad = 256
	r := checkWorld(t, "much", w)
	if sent := len(r.Channels[1].Client.Sent); sent <= 200000 {
		t.Fatalf("the client has sent %d bytes", sent)
	}
	if got := r.Channels[2].Server; got.Fault != 0 || got.Alert != impl.AlertBadRecord || got.Now != 5001 || !got.Resumed {
		t.Errorf("much: %s", reportInShort(got))
	}
	if last := r.Channels[3]; !last.Server.EarlyTaken || last.Server.Now != 5002 {
		t.Errorf("behind it: %s", channelInShort(last))
	}
	// The client's time was ahead, so that the server passed over its early data; a copy comes when they fit.
	w = shopWorld(flushed(0, "", timeStep(clientEnd, 30)), much, copyOf(1, 25), copyOf(1, 1))
	w.Connections[1].Early, w.Client.Pad = []byte("early"), 256
	r = checkWorld(t, "much and early", w)
	if !slices.Equal(takenAt(r), []int{2}) || len(r.Channels[1].Client.Sent) <= 200000 || string(r.Channels[2].Server.Read) != "early" {
		t.Errorf("much and early: %s", worldInShort(r))
	}
}
