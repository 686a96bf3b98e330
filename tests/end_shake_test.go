package tests

import (
	"bytes"
	"math/rand"
	"slices"
	"testing"

	"loop.example/g00004/impl"
)

// Whole handshakes: what both ends send, choose and have in the end, with and without a ticket and early data.

// shakeCase are two configurations that fit, and what the server chooses.
type shakeCase struct {
	what     string
	client   impl.EndConfig
	server   impl.EndConfig
	resumed  bool
	taken    bool
	protocol string
}

// shakeOf lets the change have both configurations and the state that is in the client's ticket.
func shakeOf(what string, resumed bool, taken bool, change func(c *impl.EndConfig, s *impl.EndConfig, state *impl.TicketState)) shakeCase {
	one := shakeCase{what: what, client: earlyClient(), server: shopServer(), resumed: resumed, taken: taken}
	state := shopState()
	change(&one.client, &one.server, &state)
	one.client.Saved.Ticket = impl.SealTicket(one.server.TicketKey, upwards(12), state)
	return one
}

func (one shakeCase) run(t *testing.T) (impl.EndReport, impl.EndReport) {
	t.Helper()
	client := playClient(one.client, one.server).back().open().checkOpen(t, one.what+", client")
	server := playServer(one.client, one.server).open().checkOpen(t, one.what+", server")
	return client, server
}

func (one shakeCase) check(t *testing.T) {
	t.Helper()
	client, server := one.run(t)
	for _, r := range []impl.EndReport{client, server} {
		if r.Resumed != one.resumed || r.EarlyTaken != one.taken || r.Protocol != one.protocol {
			t.Errorf("%s: resumed %v, taken %v, protocol %q", one.what, r.Resumed, r.EarlyTaken, r.Protocol)
		}
		if len(r.Transcript) != 32 || len(r.Exporter) != 32 {
			t.Errorf("%s: a transcript of %d bytes, an exporter of %d", one.what, len(r.Transcript), len(r.Exporter))
		}
	}
	checkList(t, one.what+": transcripts", client.Transcript, server.Transcript)
	checkList(t, one.what+": exporters", client.Exporter, server.Exporter)
	var early []byte
	if one.taken {
		early = one.client.Early
	}
	checkList(t, one.what+": read early", server.Read, early)
	if server.EarlyRead != int64(len(early)) {
		t.Errorf("%s: %d bytes counted as early", one.what, server.EarlyRead)
	}
	one.checkSaved(t, client)
}

// checkSaved opens the ticket that the client has got.
func (one shakeCase) checkSaved(t *testing.T, client impl.EndReport) {
	t.Helper()
	if one.server.Life == 0 {
		if !sameSaved(client.Saved, impl.Saved{}) {
			t.Errorf("%s: saved, though the server gives no tickets", one.what)
		}
		return
	}
	state := impl.OpenTicket(one.server.TicketKey, client.Saved.Ticket)
	want := impl.TicketState{Psk: client.Saved.Psk, Random: client.Saved.Random, Made: one.server.Now, Life: one.server.Life,
		Host: one.client.Host, Protocol: one.protocol, Early: one.server.EarlyMost}
	if !state.Good || !sameTicketState(state.State, want) {
		t.Errorf("%s: the ticket hides %s, not %s", one.what, stateInShort(state.State), stateInShort(want))
	}
	saved := impl.Saved{Ticket: client.Saved.Ticket, Psk: want.Psk, Random: want.Random, Got: one.client.Now, Life: one.server.Life,
		Host: one.client.Host, Protocol: one.protocol, Early: one.server.EarlyMost}
	if !sameSaved(client.Saved, saved) || impl.SavedFault(client.Saved, one.client.Now) != 0 {
		t.Errorf("%s: saved is not as told: %s", one.what, reportInShort(client))
	}
	if bytes.Equal(client.Saved.Psk, one.client.Saved.Psk) {
		t.Errorf("%s: the old psk again", one.what)
	}
}

func TestShakeWithoutTicket(t *testing.T) {
	for count := 1; count <= 4; count++ {
		chain := goodCase(count)
		one := shakeCase{what: "a chain", client: shopClient(), server: shopServerOf(chain)}
		one.client.Roots = chain.roots
		one.check(t)
		one.server.Life = 0
		one.check(t)
		one.server.Life, one.server.EarlyMost = 1, 0
		one.check(t)
	}
}

// Early data wait for a ticket: without one nothing of them is sent.
func TestShakeKeepsEarlyData(t *testing.T) {
	with, without := shopClient(), shopClient()
	with.Early = []byte("never sent")
	checkList(t, "sent", impl.RunEnd(with, nil).Sent, impl.RunEnd(without, nil).Sent)
	shakeCase{what: "early data without a ticket", client: with, server: shopServer()}.check(t)
}

// greatChain has certificates of which the message needs several records.
func greatChain() chainCase {
	c := goodCase(4)
	for i := range c.chain {
		for _, letter := range "abcdefghijklmn" {
			name := string(bytes.Repeat([]byte(string(letter)), 60)) + ".shop.example"
			if i == 0 {
				c.chain[i].Hosts = append(c.chain[i].Hosts, name)
			} else {
				c.chain[i].Excluded = append(c.chain[i].Excluded, name+".bad")
			}
		}
		slices.Sort(c.chain[i].Hosts)
		slices.Sort(c.chain[i].Excluded)
	}
	return c.signed()
}

func TestShakeOfManyPieces(t *testing.T) {
	chain := greatChain()
	one := shakeCase{what: "great certificates", client: shopClient(), server: shopServerOf(chain)}
	one.client.Roots = chain.roots
	size := 0
	for _, c := range chain.chain {
		size += len(toldCertForm(c))
	}
	if size < 2*impl.MaxPlain {
		t.Fatalf("the certificates have %d bytes", size)
	}
	one.check(t)
}

func TestShakeProtocols(t *testing.T) {
	r := rand.New(rand.NewSource(389))
	long := string(bytes.Repeat([]byte("p"), 32))
	for _, one := range []struct {
		client []string
		server []string
		chosen string
	}{
		{nil, nil, ""},
		{[]string{"h2"}, nil, ""},
		{nil, []string{"h2"}, ""},
		{[]string{"h2"}, []string{"h2"}, "h2"},
		{[]string{"a", "b"}, []string{"b", "a"}, "b"},
		{[]string{"b", "a"}, []string{"c", "a", "b"}, "a"},
		{[]string{"x", "y", long}, []string{"q", long, "x"}, long},
		{longProtocols(8), longProtocols(8), longProtocols(8)[0]},
		{[]string{"\x00", " "}, []string{" "}, " "},
	} {
		shake := shakeCase{what: "protocols", client: shopClient(), server: shopServer(), protocol: one.chosen}
		shake.client.Protocols, shake.server.Protocols = one.client, one.server
		shake.check(t)
		// A ticket of this protocol is good for it, one of another is not.
		shake = shakeOf("protocols again", true, true, func(c *impl.EndConfig, s *impl.EndConfig, state *impl.TicketState) {
			c.Protocols, s.Protocols = one.client, one.server
			state.Protocol, c.Saved.Protocol = one.chosen, one.chosen
		})
		shake.protocol = one.chosen
		shake.check(t)
		shake = shakeOf("another protocol", false, false, func(c *impl.EndConfig, s *impl.EndConfig, state *impl.TicketState) {
			c.Protocols, s.Protocols = one.client, one.server
			state.Protocol = one.chosen + "x"
			if len(one.chosen) > 31 || r.Intn(2) == 0 {
				state.Protocol = "other"
			}
		})
		shake.protocol = one.chosen
		shake.check(t)
	}
}

func TestShakeResumed(t *testing.T) {
	for _, one := range []shakeCase{
		shakeOf("early taken", true, true, func(c *impl.EndConfig, s *impl.EndConfig, state *impl.TicketState) {}),
		shakeOf("no early data", true, false, func(c *impl.EndConfig, s *impl.EndConfig, state *impl.TicketState) { c.Early = nil }),
		shakeOf("as many as the ticket lets", true, true, func(c *impl.EndConfig, s *impl.EndConfig, state *impl.TicketState) {
			c.Saved.Early, state.Early = int64(len(c.Early)), int64(len(c.Early))
		}),
		shakeOf("one more than the ticket lets", true, false, func(c *impl.EndConfig, s *impl.EndConfig, state *impl.TicketState) {
			c.Saved.Early, state.Early = int64(len(c.Early))-1, 0
		}),
		shakeOf("most early data", true, true, func(c *impl.EndConfig, s *impl.EndConfig, state *impl.TicketState) {
			c.Early, c.Pad = upwards(4096), 256
		}),
		shakeOf("one early byte", true, true, func(c *impl.EndConfig, s *impl.EndConfig, state *impl.TicketState) {
			c.Early, s.EarlyMost = []byte{0}, 1
		}),
		shakeOf("the server takes none", true, false, func(c *impl.EndConfig, s *impl.EndConfig, state *impl.TicketState) { s.EarlyMost = 0 }),
		shakeOf("the server gives no tickets any more", true, true, func(c *impl.EndConfig, s *impl.EndConfig, state *impl.TicketState) { s.Life = 0 }),
		shakeOf("another mark in the window", true, true, func(c *impl.EndConfig, s *impl.EndConfig, state *impl.TicketState) {
			s.Window = windowOf(10, 6000, 4999, 5000)
		}),
		shakeOf("a full window", true, false, func(c *impl.EndConfig, s *impl.EndConfig, state *impl.TicketState) {
			s.Window = windowOf(10, sameUntils(64, 5000)...)
		}),
		shakeOf("a window full of what is past", true, true, func(c *impl.EndConfig, s *impl.EndConfig, state *impl.TicketState) {
			s.Window = windowOf(10, sameUntils(64, 4999)...)
		}),
		shakeOf("a ticket for another host", false, false, func(c *impl.EndConfig, s *impl.EndConfig, state *impl.TicketState) {
			state.Host = "shop.example"
		}),
		shakeOf("a saved one for another host", false, false, func(c *impl.EndConfig, s *impl.EndConfig, state *impl.TicketState) {
			c.Saved.Host = "shop.example"
		}),
	} {
		one.check(t)
	}
}

// Another key than the one of the ticket, and a ticket that is none.
func TestShakeTicketsThatDoNotOpen(t *testing.T) {
	one := shakeCase{what: "another key", client: earlyClient(), server: shopServer()}
	one.server.TicketKey = seedNumber(80)
	one.check(t)
	for _, ticket := range [][]byte{{1}, upwards(400), ticketOfShop(shopState())[1:], withBit(ticketOfShop(shopState()), 100)} {
		one = shakeCase{what: "no ticket", client: earlyClient(), server: shopServer()}
		one.client.Saved.Ticket = ticket
		one.check(t)
	}
}

// The life of a ticket, by the clocks of either end: the client's life is the saved one, the server's that of the state.
func TestShakeTicketLives(t *testing.T) {
	for _, one := range []struct {
		what             string
		got, savedLife   int64
		made, stateLife  int64
		clientNow        int64
		serverNow        int64
		offered, resumed bool
	}{
		{"the last second for both", 4500, 500, 4500, 500, 5000, 5000, true, true},
		{"a second late for the client", 4499, 500, 4500, 500, 5000, 5000, false, false},
		{"a second late for the server", 4500, 500, 4499, 500, 5000, 5000, true, false},
		{"the first second", 5000, 1, 5000, 1, 5000, 5000, true, true},
		{"a second behind a short life", 4999, 1, 4998, 1, 5000, 5000, true, false},
		{"made ahead of its time", 5000, 1, 5001, 500, 5000, 5000, true, false},
		{"the server's clock is behind", 4900, 500, 4900, 500, 5000, 4900, true, true},
		{"the server's clock is too far behind", 4900, 500, 4900, 500, 5000, 4899, true, false},
		{"the longest life", 10, lastLife, 10, lastLife, lastLife + 10, lastLife + 10, true, true},
		{"the longest life and a second", 10, lastLife, 9, lastLife, lastLife + 10, lastLife + 10, true, false},
		{"the longest life and a second for the client", 9, lastLife, 10, lastLife, lastLife + 10, lastLife + 10, false, false},
		{"from the beginning", 0, 5000, 0, 5000, 5000, 5000, true, true},
	} {
		client, server := backClient(), shopServer()
		state := shopState()
		state.Made, state.Life = one.made, one.stateLife
		client.Saved = savedOf(state)
		client.Saved.Got, client.Saved.Life = one.got, one.savedLife
		client.Now, server.Now = one.clientNow, one.serverNow
		for i := range server.Certs {
			server.Certs[i].From, server.Certs[i].Until = 0, lastTime
		}
		chain := goodCase(2)
		chain.chain = server.Certs
		server.Certs = chain.signed().chain
		shakeCase{what: one.what, client: client, server: server, resumed: one.resumed}.check(t)
		hello := impl.DecodeMessage(impl.RunEnd(client, nil).Sent[3:], 0).Message
		if (len(hello.Ticket) > 0) != one.offered {
			t.Errorf("%s: a ticket of %d bytes is offered", one.what, len(hello.Ticket))
		}
		if one.offered && hello.Age != impl.TicketAge(state.Random, one.clientNow-one.got) {
			t.Errorf("%s: the age %d", one.what, hello.Age)
		}
	}
}

// An age fits if it is at most as far off as the window is wide, either way.
func TestShakeAges(t *testing.T) {
	for _, one := range []struct {
		got, made, width int64
		taken            bool
	}{
		{4900, 4900, 0, true}, {4901, 4900, 0, false}, {4899, 4900, 0, false},
		{4910, 4900, 10, true}, {4911, 4900, 10, false}, {4890, 4900, 10, true}, {4889, 4900, 10, false},
		{5000, 4600, 400, true}, {5000, 4600, 399, false},
	} {
		shakeOf("an age", true, one.taken, func(c *impl.EndConfig, s *impl.EndConfig, state *impl.TicketState) {
			c.Saved.Got, state.Made, s.Window.Width = one.got, one.made, one.width
		}).check(t)
	}
}

// Early data that were taken once are not taken again with the same Hello, but with another one of the same ticket.
func TestShakeTakesEarlyDataOnce(t *testing.T) {
	first, server := earlyClient(), shopServer()
	told := playServer(first, server).open().checkOpen(t, "first")
	if !told.EarlyTaken || len(told.Window.Marks) != 1 || told.Window.Marks[0].Until != 5020 {
		t.Errorf("first: %s", reportInShort(told))
	}
	server.Window = told.Window
	shakeCase{what: "again", client: first, server: server, resumed: true}.check(t)
	server.Now = 5020
	shakeCase{what: "in the last second of the mark", client: first, server: server, resumed: true}.check(t)
	other := earlyClient()
	other.Seed = seedNumber(90)
	server.Now = 5000
	shakeCase{what: "with another Hello", client: other, server: server, resumed: true, taken: true}.check(t)
}

// What was forgotten in a window that was asked is forgotten, whatever it answered.
func TestShakeWindowIsAsTold(t *testing.T) {
	client, server := earlyClient(), shopServer()
	binder := impl.DecodeMessage(impl.RunEnd(client, nil).Sent[3:], 0).Message.Binder
	server.Window = windowOf(10, 4999, 5001)
	server.Window.Marks = append(server.Window.Marks, impl.Mark{Id: impl.Hash(binder), Until: 5000})
	told := playServer(client, server).deliver().check(t, "taken before", impl.PhaseWaiting, noAlert, noAlert)
	if told.EarlyTaken || !told.Resumed || len(told.Window.Marks) != 2 || told.Window.Marks[0].Until != 5001 {
		t.Errorf("taken before: %s", reportInShort(told))
	}
	for _, change := range []func(c *impl.EndConfig, s *impl.EndConfig){
		func(c *impl.EndConfig, s *impl.EndConfig) { c.Early = nil },
		func(c *impl.EndConfig, s *impl.EndConfig) { s.EarlyMost = 0 },
		func(c *impl.EndConfig, s *impl.EndConfig) { c.Saved.Got -= 11 },
		func(c *impl.EndConfig, s *impl.EndConfig) { c.Saved = impl.Saved{} },
		func(c *impl.EndConfig, s *impl.EndConfig) { s.TicketKey = upwards(32) },
	} {
		c, s := client, server
		change(&c, &s)
		told := playServer(c, s).deliver().check(t, "not asked", impl.PhaseWaiting, noAlert, noAlert)
		if !sameWindow(told.Window, server.Window) {
			t.Errorf("not asked, and yet %s", windowInShort(told.Window))
		}
	}
}

func TestShakePads(t *testing.T) {
	for _, pad := range []int64{0, 1, 255, 256} {
		for _, size := range []int{1, 2048, 2049, 4096} {
			one := shakeOf("pads", true, true, func(c *impl.EndConfig, s *impl.EndConfig, state *impl.TicketState) {
				c.Pad, s.Pad, c.Early = pad, 256-pad, upwards(size)
			})
			one.check(t)
			records := impl.CutRecords(impl.RunEnd(one.client, nil).Sent).Records
			if want := min(size, impl.MaxPlain) + 1 + int(pad) + impl.SumSize; len(records[1].Body) != want || len(records) != 2+(size-1)/2048 {
				t.Errorf("pad %d: %d records, the first of early data has %d bytes, not %d", pad, len(records), len(records[1].Body), want)
			}
		}
	}
}

// Random seeds and keys, and tickets that the program itself has given.
func TestShakeComesBack(t *testing.T) {
	r := rand.New(rand.NewSource(390))
	for range 6 {
		one := shakeCase{what: "first time", client: shopClient(), server: shopServer()}
		one.client.Seed, one.server.Seed, one.server.TicketKey = randomList(r, 32), randomList(r, 32), randomList(r, 32)
		one.server.EarlyMost = 11 + r.Int63n(5000)
		one.check(t)
		client, _ := one.run(t)
		for range 3 {
			gap := r.Int63n(501)
			one.client.Seed, one.server.Seed = randomList(r, 32), randomList(r, 32)
			one.client.Saved, one.client.Early = client.Saved, randomList(r, 1+r.Intn(11))
			one.client.Now += gap
			one.server.Now += gap
			one.what, one.resumed, one.taken = "again", true, true
			one.check(t)
			client, _ = one.run(t)
		}
	}
}
