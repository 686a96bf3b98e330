package tests

import (
	"fmt"
	"math/rand"
	"strings"
	"testing"

	"loop.example/g00004/impl"
)

// Promise 32: a client that comes back within a ticket's life, by both clocks, is resumed.

// longServer has certificates that are good up to the last time, so that a whole handshake is there when a ticket is too old.
func longServer() impl.EndConfig {
	c := goodCase(2)
	for i := range c.chain {
		c.chain[i].Until = lastTime
	}
	return shopServerOf(c.signed())
}

// speaking is a visit over a network that only delivers, in which both ends write and close.
func speaking(gap int64, early string) impl.Connection {
	return flushed(gap, early, writeStep(clientEnd, "question"), writeStep(serverEnd, "answer"), flushStep(), closeStep(clientEnd), closeStep(serverEnd), flushStep())
}

// checkSpoke asks for a connection that went well, with or without the ticket and the early data.
func checkSpoke(t *testing.T, what string, r impl.ChannelReport, early string, resumed bool, taken bool) {
	t.Helper()
	if impl.Agreement(r) != impl.AgreeBoth || !wentWell(r) {
		t.Errorf("%s: the agreement is %d: %s", what, impl.Agreement(r), channelInShort(r))
	}
	if r.Client.Resumed != resumed || r.Server.Resumed != resumed || r.Client.EarlyTaken != taken || r.Server.EarlyTaken != taken {
		t.Errorf("%s: resumed %v and %v, not %v; taken %v and %v, not %v", what, r.Client.Resumed, r.Server.Resumed, resumed, r.Client.EarlyTaken, r.Server.EarlyTaken, taken)
	}
	if !taken {
		early = ""
	}
	if string(r.Server.Read) != early+"question" || r.Server.EarlyRead != int64(len(early)) || string(r.Client.Read) != "answer" {
		t.Errorf("%s: read %q, %d of them early, and %q", what, r.Server.Read, r.Server.EarlyRead, r.Client.Read)
	}
}

// Up to the last second of its life a ticket is taken, with early data and without.
func TestPromise32World(t *testing.T) {
	t.Parallel()
	for _, life := range []int64{1, 2, 500, lastLife - 1, lastLife} {
		for _, gap := range []int64{0, 1, 2, life / 2, life - 1, life, life + 1, life + 2, 2 * life, 2*life + 1, lastTime} {
			for _, early := range []string{"", "early"} {
				server := longServer()
				server.Life = life
				what := fmt.Sprint("life ", life, ", gap ", gap, ", early ", early)
				r := checkWorld(t, what, worldOf(shopClient(), server, speaking(0, ""), speaking(gap, early)))
				resumed := gap <= life
				checkSpoke(t, what, r.Channels[0], "", false, false)
				checkSpoke(t, what, r.Channels[1], early, resumed, resumed && early != "")
				if r.Saved.Got != min(5000+gap, lastTime) || r.Saved.Life != life {
					t.Errorf("%s: the ticket that is left was got at %d", what, r.Saved.Got)
				}
			}
		}
	}
}

// Both clocks count, each from when the ticket came or was made by it; where they go apart by more than the window is wide,
// the connection is resumed without the early data.
func TestPromise32WorldByBothClocks(t *testing.T) {
	t.Parallel()
	for _, starts := range [][2]int64{{5000, 5000}, {2000, 8000}, {8000, 0}} {
		for _, ages := range [][2]int64{{0, 0}, {500, 500}, {500, 490}, {490, 500}, {500, 489}, {489, 500}, {500, 0}, {0, 500}, {10, 0}, {0, 10}, {11, 0}, {0, 11},
			{501, 500}, {500, 501}, {501, 501}, {501, 0}, {0, 501}, {lastLife, 3}, {3, lastLife}} {
			gap := min(ages[0], ages[1])
			first := speaking(0, "")
			first.Steps = append(first.Steps, timeStep(clientEnd, ages[0]-gap), timeStep(serverEnd, ages[1]-gap))
			w := worldOf(shopClient(), longServer(), first, speaking(gap, "early"))
			w.Client.Now, w.Server.Now = starts[0], starts[1]
			what := fmt.Sprint("clocks from ", starts, ", ages ", ages)
			r := checkWorld(t, what, w)
			resumed := max(ages[0], ages[1]) <= 500
			apart := max(ages[0]-ages[1], ages[1]-ages[0])
			checkSpoke(t, what, r.Channels[1], "early", resumed, resumed && apart <= 10)
		}
	}
}

// Time may also go by between the Hello and its coming.
func TestPromise32WorldSlowNetwork(t *testing.T) {
	t.Parallel()
	for _, one := range []struct {
		gap, slow int64
		resumed   bool
		taken     bool
	}{{0, 0, true, true}, {0, 10, true, true}, {0, 11, true, false}, {490, 10, true, true}, {489, 11, true, false}, {490, 11, false, false}, {500, 1, false, false}, {0, 501, false, false}} {
		back := speaking(one.gap, "early")
		back.Steps = append([]impl.Step{timeStep(serverEnd, one.slow)}, back.Steps...)
		what := fmt.Sprint("gap ", one.gap, ", slow ", one.slow)
		r := checkWorld(t, what, worldOf(shopClient(), longServer(), speaking(0, ""), back))
		checkSpoke(t, what, r.Channels[1], "early", one.resumed, one.taken)
	}
}

// As many bytes go early as the server allows, and are read ahead of what is written; one more, and none of them goes early.
func TestPromise32WorldEarlyData(t *testing.T) {
	t.Parallel()
	for _, most := range []int64{0, 1, 5, 2048, 4095, 4096, 4097, lastAge} {
		for _, size := range []int{0, 1, 2, 5, 6, 2047, 2048, 2049, 4095, 4096} {
			for _, pad := range []int64{0, 256} {
				early := strings.Repeat("e", size)
				w := shopWorld(speaking(0, ""), speaking(100, early))
				w.Server.EarlyMost, w.Client.Pad = most, pad
				what := fmt.Sprint(size, " bytes of ", most, ", padding ", pad)
				r := checkWorld(t, what, w)
				checkSpoke(t, what, r.Channels[1], early, true, size > 0 && int64(size) <= most)
			}
		}
	}
}

// Each connection gives the ticket for the next one, and early data go along with every one of them.
func TestPromise32WorldAgainAndAgain(t *testing.T) {
	t.Parallel()
	var list []impl.Connection
	for i := range 8 {
		list = append(list, speaking(int64(100*i)%501, fmt.Sprint("early ", i)))
	}
	r := checkWorld(t, "again and again", shopWorld(list...))
	for i, c := range r.Channels {
		checkSpoke(t, fmt.Sprint("connection ", i), c, fmt.Sprint("early ", i), i > 0, i > 0)
	}
	// One that is too late begins anew, and those behind it come back again.
	list[4].Gap = 501
	r = checkWorld(t, "one too late", shopWorld(list...))
	for i, c := range r.Channels {
		isBack := i > 0 && i != 4
		checkSpoke(t, fmt.Sprint("connection ", i), c, fmt.Sprint("early ", i), isBack, isBack)
	}
}

// Where connections between them gave no ticket, the older one is taken, as long as it lives.
func TestPromise32WorldOlderTicket(t *testing.T) {
	t.Parallel()
	for gap, resumed := range map[int64]bool{100: true, 300: true, 301: false} {
		w := worldOf(shopClient(), longServer(), speaking(0, ""), visit(100, "lost", lost()), visit(100, "", flipStep(serverEnd, 60, 1), flushStep()), copyOf(1, 0), speaking(gap, "early"))
		r := checkWorld(t, fmt.Sprint("gap ", gap), w)
		checkSpoke(t, fmt.Sprint("gap ", gap), r.Channels[4], "early", resumed, resumed)
	}
}

// What is saved may come from a world that is over: with the same key, protocol and host it is as if that went on.
func TestPromise32WorldAfterAWorld(t *testing.T) {
	t.Parallel()
	client, server := withoutEarly(protocolClient()), protocolServer()
	client.Saved = impl.Saved{}
	first := checkWorld(t, "the first world", worldOf(client, server, speaking(7, "")))
	client.Saved, client.Now, server.Now, server.Window = first.Saved, first.Channels[0].Client.Now, first.Channels[0].Server.Now, first.Window
	for what, one := range map[string]struct {
		resumed bool
		change  func(w *impl.World)
	}{
		"the same":                  {true, func(w *impl.World) {}},
		"another server's seed":     {true, func(w *impl.World) { w.Server.Seed, w.Server.KeySeed = full(32), full(32) }},
		"more protocols behind":     {true, func(w *impl.World) { w.Client.Protocols = append(w.Client.Protocols, "y") }},
		"no life any more":          {true, func(w *impl.World) { w.Server.Life = 0 }},
		"no root any more":          {true, func(w *impl.World) { w.Client.Roots = nil }},
		"another ticket key":        {false, func(w *impl.World) { w.Server.TicketKey = full(32) }},
		"another protocol":          {false, func(w *impl.World) { w.Client.Protocols = []string{"x"} }},
		"no protocol":               {false, func(w *impl.World) { w.Client.Protocols = nil }},
		"another protocol's server": {false, func(w *impl.World) { w.Server.Protocols = []string{"x", "h2"} }},
		"another host":              {false, func(w *impl.World) { w.Client.Host = "shop.example" }},
		"the ticket is spoilt":      {false, func(w *impl.World) { w.Client.Saved.Ticket = withBit(w.Client.Saved.Ticket, 200) }},
		"no ticket":                 {false, func(w *impl.World) { w.Client.Saved = impl.Saved{} }},
	} {
		w := worldOf(client, server, speaking(400, "early"))
		w.Connections[0].Seed = full(32)
		one.change(&w)
		r := checkWorld(t, what, w)
		checkSpoke(t, what, r.Channels[0], "early", one.resumed, one.resumed)
	}
}

// A world that is cut in two goes on in the second as it does in one, if no copy looks back.
func TestWorldCutInTwo(t *testing.T) {
	t.Parallel()
	r := rand.New(rand.NewSource(592))
	for range 30 {
		w := randomWorld(r)
		for i := range w.Connections {
			if toldIsCopy(w.Connections[i]) {
				w.Connections[i].Copied, w.Connections[i].Early, w.Connections[i].Steps = notCopied, []byte("early"), randomVisit(r)
			}
		}
		whole := checkWorld(t, "whole", w)
		at := r.Intn(len(w.Connections)) + 1
		first, second := w, w
		first.Connections, second.Connections = w.Connections[:at], w.Connections[at:]
		begun := checkWorld(t, "first", first)
		second.Client.Saved, second.Server.Window = begun.Saved, begun.Window
		second.Client.Now, second.Server.Now = begun.Channels[at-1].Client.Now, begun.Channels[at-1].Server.Now
		ended := checkWorld(t, "second", second)
		ended.Channels = append(begun.Channels, ended.Channels...)
		if !sameWorldReport(whole, ended) {
			t.Errorf("cut at %d:%s\ngot  %s\nwant %s", at, connectionsInShort(w.Connections), worldInShort(ended), worldInShort(whole))
		}
	}
}

// Any configurations that fit, any gaps and early data: resumed exactly within the life.
func TestPromise32WorldRandom(t *testing.T) {
	t.Parallel()
	r := rand.New(rand.NewSource(593))
	seen := map[bool]int{}
	for range 60 {
		client, server := shopClient(), longServer()
		client.Now, server.Now = r.Int63n(9000)+1000, r.Int63n(lastTime)
		client.Pad, server.Pad = r.Int63n(257), r.Int63n(257)
		client.Protocols, server.Protocols = fitProtocols(r)
		server.Life = 1 + r.Int63n([]int64{3, 600, lastLife}[r.Intn(3)])
		server.EarlyMost = []int64{1, 50, lastAge}[r.Intn(3)]
		gap := min(r.Int63n(2*server.Life+1), lastTime-server.Now)
		early := string(randomList(r, r.Intn(60)))
		w := worldOf(client, server, speaking(0, ""), speaking(gap, early))
		for i := range w.Connections {
			w.Connections[i].Seed = randomList(r, 32)
		}
		what := fmt.Sprint("life ", server.Life, ", gap ", gap, ", ", len(early), " bytes of ", server.EarlyMost)
		got := checkWorld(t, what, w)
		resumed := gap <= server.Life
		seen[resumed]++
		checkSpoke(t, what, got.Channels[1], early, resumed, resumed && early != "" && int64(len(early)) <= server.EarlyMost)
	}
	if seen[true] == 0 || seen[false] == 0 {
		t.Errorf("resumed: %v", seen)
	}
}
