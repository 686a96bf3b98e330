package tests

import (
	"bytes"
	"fmt"
	"math/rand"
	"slices"
	"testing"

	"loop.example/g00004/impl"
)

// Tickets that one channel gives and the next one takes, what is wrong with them, and early data that are taken or passed over.

// returning is a client that has got its ticket from the server by a channel, and comes back with early data.
func returning(t *testing.T, server impl.EndConfig) impl.EndConfig {
	t.Helper()
	client := shopClient()
	client.Saved = checkHonest(t, "the first channel", client, server, flushStep()).Client.Saved
	if len(client.Saved.Ticket) == 0 {
		t.Fatal("no ticket came")
	}
	client.Seed, client.Early = seedNumber(80), []byte("early words")
	return client
}

// laterServer is the same server with other random things.
func laterServer(server impl.EndConfig) impl.EndConfig {
	server.Seed = seedNumber(81)
	return server
}

// backSteps open a channel, and have both ends write.
func backSteps() []impl.Step {
	return []impl.Step{flushStep(), writeStep(clientEnd, "question"), writeStep(serverEnd, "answer"), flushStep()}
}

// checkReturn asks for a channel that opens, with or without the ticket and the early data.
func checkReturn(t *testing.T, what string, client impl.EndConfig, server impl.EndConfig, resumed bool, taken bool) impl.ChannelReport {
	t.Helper()
	r := checkHonest(t, what, client, server, backSteps()...)
	if impl.Agreement(r) != impl.AgreeBoth || r.Client.Phase != impl.PhaseOpen || r.Server.Phase != impl.PhaseOpen {
		t.Errorf("%s: the agreement is %d: %s", what, impl.Agreement(r), channelInShort(r))
	}
	if r.Client.Resumed != resumed || r.Server.Resumed != resumed || r.Client.EarlyTaken != taken || r.Server.EarlyTaken != taken {
		t.Errorf("%s: resumed %v and %v, taken %v and %v", what, r.Client.Resumed, r.Server.Resumed, r.Client.EarlyTaken, r.Server.EarlyTaken)
	}
	var early []byte
	if taken {
		early = client.Early
	}
	checkList(t, what+": read by the server", r.Server.Read, append(bytes.Clone(early), "question"...))
	checkList(t, what+": read by the client", r.Client.Read, []byte("answer"))
	if r.Server.EarlyRead != int64(len(early)) {
		t.Errorf("%s: %d bytes count as early, not %d", what, r.Server.EarlyRead, len(early))
	}
	return r
}

func TestChannelTicketIsTaken(t *testing.T) {
	t.Parallel()
	for _, server := range []impl.EndConfig{shopServer(), protocolServer()} {
		client := returning(t, server)
		r := checkReturn(t, "with early data", client, laterServer(server), true, true)
		if len(r.Server.Window.Marks) != 1 || r.Server.Window.Marks[0].Until != 5020 {
			t.Errorf("the window is %s", windowInShort(r.Server.Window))
		}
		if len(r.Client.Saved.Ticket) == 0 || sameSaved(r.Client.Saved, client.Saved) {
			t.Errorf("no new ticket came: %s", reportInShort(r.Client))
		}
		client.Early = nil
		r = checkReturn(t, "without early data", client, laterServer(server), true, false)
		if len(r.Server.Window.Marks) != 0 {
			t.Errorf("the window is %s", windowInShort(r.Server.Window))
		}
	}
}

// A ticket of which one bit is another, or that is shorter, does not open: the handshake is a whole one, and early data are passed over.
func TestChannelTicketSpoilt(t *testing.T) {
	t.Parallel()
	client := returning(t, shopServer())
	ticket := client.Saved.Ticket
	r := rand.New(rand.NewSource(520))
	for place := range ticket {
		client.Saved.Ticket = withBit(ticket, 8*place+r.Intn(8))
		checkReturn(t, fmt.Sprint("byte ", place, " is another"), client, laterServer(shopServer()), false, false)
	}
	for _, other := range [][]byte{ticket[:1], ticket[:len(ticket)-1], ticket[1:], append(bytes.Clone(ticket), 0), full(400), upwards(28)} {
		client.Saved.Ticket = other
		checkReturn(t, fmt.Sprint("of ", len(other), " bytes"), client, laterServer(shopServer()), false, false)
	}
}

func TestChannelTicketOfAnotherKey(t *testing.T) {
	t.Parallel()
	client := returning(t, shopServer())
	r := rand.New(rand.NewSource(521))
	for range 10 {
		server := laterServer(shopServer())
		server.TicketKey = withBit(server.TicketKey, r.Intn(256))
		checkReturn(t, "another ticket key", client, server, false, false)
	}
}

// With another secret the ticket opens, and the binder does not fit: the server sees it, and the client is told.
func TestChannelTicketWithAnotherSecret(t *testing.T) {
	t.Parallel()
	client := returning(t, shopServer())
	r := rand.New(rand.NewSource(522))
	for i := range 10 {
		other := client
		other.Saved.Psk = withBit(client.Saved.Psk, r.Intn(256))
		if i%2 == 0 {
			other.Early = nil
		}
		server := laterServer(shopServer())
		checkUnfit(t, "another secret", &couple{client: other, server: server}, true, impl.AlertDecrypt, flushStep())
		// Where the ticket would not be taken at all, nobody asks for the binder.
		server.TicketKey = full(32)
		checkReturn(t, "another secret and another key", other, server, false, false)
	}
}

// What a client has saved beside the ticket: another random makes another age, another host or a life that is over keep it
// from being offered, another protocol is not the one that the server takes.
func TestChannelTicketSavedOtherwise(t *testing.T) {
	t.Parallel()
	client, server := returning(t, shopServer()), laterServer(shopServer())
	other := client
	other.Saved.Random = withBit(client.Saved.Random, 3)
	checkReturn(t, "another random, early", other, server, true, false)
	other = client
	other.Saved.Host = "shop.example"
	checkReturn(t, "another host", other, server, false, false)
	other = client
	other.Now += client.Saved.Life + 1
	checkReturn(t, "the client's time is over", other, server, false, false)
	other = client
	other.Saved.Early = int64(len(client.Early)) - 1
	checkReturn(t, "too many early data", other, server, true, false)
	other = client
	other.Saved.Protocol = "h2"
	checkUnfit(t, "another protocol", &couple{client: other, server: server}, false, impl.AlertIllegal, flushStep())
	late := server
	late.Now += client.Saved.Life + 1
	checkReturn(t, "the server's time is over", client, late, false, false)
	young := server
	young.Now--
	checkReturn(t, "the server's time was not yet", client, young, false, false)
}

// Early data of any size and padding, taken and passed over.
func TestChannelEarlyData(t *testing.T) {
	t.Parallel()
	client := returning(t, shopServer())
	r := rand.New(rand.NewSource(523))
	for what, one := range map[string]struct {
		resumed, taken bool
		change         func(s *impl.EndConfig)
	}{
		"taken":                   {true, true, func(s *impl.EndConfig) {}},
		"taken, the age just fit": {true, true, func(s *impl.EndConfig) { s.Now += 10 }},
		"the age is far off":      {true, false, func(s *impl.EndConfig) { s.Now += 11 }},
		"the server takes none":   {true, false, func(s *impl.EndConfig) { s.EarlyMost = 0 }},
		"the window is full":      {true, false, func(s *impl.EndConfig) { s.Window = windowOf(10, sameUntils(64, 6000)...) }},
		"another key":             {false, false, func(s *impl.EndConfig) { s.TicketKey = upwards(32) }},
		"the ticket is over":      {false, false, func(s *impl.EndConfig) { s.Now += 501 }},
	} {
		for _, size := range []int{1, 2048, 2049, 4096} {
			for _, pad := range []int64{0, 256} {
				server := laterServer(shopServer())
				one.change(&server)
				client.Early, client.Pad = randomList(r, size), pad
				checkReturn(t, what, client, server, one.resumed, one.taken)
			}
		}
	}
}

// The same Hello with its early data comes a second time to a server that has marked it: they are passed over.
func TestChannelEarlyDataOnce(t *testing.T) {
	t.Parallel()
	client, server := returning(t, shopServer()), laterServer(shopServer())
	first := checkReturn(t, "the first time", client, server, true, true)
	server.Window = first.Server.Window
	second := checkReturn(t, "the second time", client, server, true, false)
	if !sameWindow(second.Server.Window, first.Server.Window) {
		t.Errorf("the window is %s", windowInShort(second.Server.Window))
	}
}

// Early data come, and then nothing more: the server has read them, and waits.
func TestChannelEarlyDataAlone(t *testing.T) {
	t.Parallel()
	client, server := returning(t, shopServer()), laterServer(shopServer())
	client.Early = randomList(rand.New(rand.NewSource(524)), 4096)
	hello := len(impl.EncodeRecord(impl.CutRecords(impl.RunEnd(client, nil).Sent).Records[0]))
	for _, one := range []struct {
		count int64
		read  int
	}{{int64(hello), 0}, {int64(hello) + 2067, 0}, {int64(hello) + 2068, 2048}, {65536, 4096}} {
		r := checkHonest(t, "early data alone", client, server, deliverStep(serverEnd, one.count), dropStep(serverEnd, 65536), flushStep())
		checkList(t, "early data alone", r.Server.Read, client.Early[:one.read])
		if !r.Server.EarlyTaken {
			t.Errorf("early data alone: %s", channelInShort(r))
		}
		// What is lost is missed as soon as the client goes on.
		want := []int64{impl.AgreeEnded, impl.AgreeBoth}[one.read/4096]
		if impl.Agreement(r) != want {
			t.Errorf("early data alone: the agreement is %d, not %d: %s", impl.Agreement(r), want, channelInShort(r))
		}
	}
}

// meddling are steps that do something to the first bytes of a client.
func meddling(size int64, r *rand.Rand) [][]impl.Step {
	var all [][]impl.Step
	for place := range size {
		all = append(all, []impl.Step{flipStep(serverEnd, place, byte(1+r.Intn(255)))})
		if place%7 == 0 {
			all = append(all, []impl.Step{deliverStep(serverEnd, place), dropStep(serverEnd, 1+r.Int63n(40))},
				[]impl.Step{deliverStep(serverEnd, place), againStep(serverEnd, r.Int63n(size), 1+r.Int63n(60))},
				[]impl.Step{deliverStep(serverEnd, place), forgeStep(serverEnd, randomList(r, 1+r.Intn(30))...)})
		}
	}
	return all
}

// Whatever becomes of a Hello and its early data, what the server reads is a beginning of what the client wrote.
func TestChannelEarlyDataMeddledWith(t *testing.T) {
	t.Parallel()
	for what, server := range map[string]impl.EndConfig{"taken": laterServer(shopServer()), "passed over": laterServer(noEarlyServer())} {
		t.Run(what, func(t *testing.T) {
			t.Parallel()
			client := returning(t, shopServer())
			r := rand.New(rand.NewSource(525))
			size := int64(len(impl.RunEnd(client, nil).Sent))
			ended := 0
			for _, steps := range meddling(size, r) {
				got := checkHonest(t, what, client, server, slices.Concat(steps, backSteps())...)
				if impl.Agreement(got) == impl.AgreeEnded {
					ended++
				}
			}
			if ended == 0 {
				t.Error("no end has failed")
			}
		})
	}
}

// Up to Extras without fault a client that has sent early data seals with their secret, its alert too: a server that does not
// take them passes over that alert with them, and is not told.
func TestChannelAlertPassedOver(t *testing.T) {
	t.Parallel()
	client, server := returning(t, shopServer()), laterServer(noEarlyServer())
	client.Saved.Protocol = "h2"
	r := checkHonest(t, "passed over", client, server, flushStep())
	if r.Client.Alert != impl.AlertIllegal || r.Server.PeerAlert != noAlert || r.Server.Phase != impl.PhaseWaiting || impl.Agreement(r) != impl.AgreeEnded {
		t.Errorf("passed over: %s", channelInShort(r))
	}
	client.Early = nil
	checkUnfit(t, "no early data", &couple{client: client, server: server}, false, impl.AlertIllegal, flushStep())
}
