package tests

import (
	"bytes"
	"math/rand"
	"slices"
	"testing"

	"loop.example/g00004/impl"
)

// The general rules 2 to 4 for chapter 18: configurations and steps stay as they are, and a report owns its memory.

// guardedSteps is a list with known steps ahead of it and in the room behind it, each with guarded data.
type guardedSteps struct {
	list   []impl.Step
	whole  []impl.Step
	before []impl.Step
	data   []guardedList
}

func sameStep(a impl.Step, b impl.Step) bool {
	return a.Kind == b.Kind && a.End == b.End && a.Number == b.Number && a.Count == b.Count && bytes.Equal(a.Data, b.Data)
}

func guardSteps(steps []impl.Step) guardedSteps {
	var g guardedSteps
	strangers := []impl.Step{{Kind: 77, End: 78, Number: 79, Count: 80, Data: []byte("stranger")}, {Kind: 81}}
	for _, s := range slices.Concat(strangers, steps, strangers) {
		data := guard(s.Data)
		g.data = append(g.data, data)
		kept := s
		kept.Data = bytes.Clone(s.Data)
		s.Data = data.list
		g.whole, g.before = append(g.whole, s), append(g.before, kept)
	}
	g.list = g.whole[2 : 2+len(steps)]
	return g
}

func (g guardedSteps) changed() bool {
	return anyChanged(g.data) || !slices.EqualFunc(g.whole, g.before, sameStep)
}

func listsOfChannel(r impl.ChannelReport) [][]byte {
	return slices.Concat(listsOfReport(r.Client), listsOfReport(r.Server), [][]byte{r.ToServer, r.ToClient})
}

func cloneChannel(r impl.ChannelReport) impl.ChannelReport {
	return impl.ChannelReport{Fault: r.Fault, Answers: slices.Clone(r.Answers), Client: cloneReport(r.Client), Server: cloneReport(r.Server),
		ToServer: bytes.Clone(r.ToServer), ToClient: bytes.Clone(r.ToClient)}
}

func spoilChannel(r *impl.ChannelReport) {
	spoilReport(&r.Client)
	spoilReport(&r.Server)
	spoil(r.ToServer)
	spoil(r.ToClient)
	room := r.Answers[:cap(r.Answers)]
	for i := range room {
		room[i] = -77
	}
}

// checkChannelApart spoils the lists of a report one by one, and asks whether another one goes along.
func checkChannelApart(t *testing.T, what string, r impl.ChannelReport) {
	t.Helper()
	lists := listsOfChannel(r)
	rooms := wholeRooms(lists)
	for i, list := range lists {
		spoil(list)
		for j, room := range wholeRooms(lists) {
			if j != i && !bytes.Equal(room, rooms[j]) {
				t.Errorf("%s: lists %d and %d of the report share memory", what, i, j)
			}
		}
		spoil(list)
	}
}

func (p channelPlay) checkMemory(t *testing.T) {
	t.Helper()
	want := toldChannel(p.client, p.server, p.steps)
	client, server, steps := guardConfig(p.client), guardConfig(p.server), guardSteps(p.steps)
	changed := func() bool { return client.changed() || server.changed() || steps.changed() }
	run := func() impl.ChannelReport { return impl.RunChannel(client.config, server.config, steps.list) }
	first, second := run(), run()
	if changed() {
		t.Errorf("%s: an argument or the room behind it was changed", p.what)
		return
	}
	kept := cloneChannel(first)
	checkChannelApart(t, p.what, first)
	spoilChannel(&first)
	if changed() {
		t.Errorf("%s: a list of the report shares memory with an argument", p.what)
	}
	if !sameChannel(second, kept) || !sameChannel(kept, want) {
		t.Errorf("%s: two calls\n%s\nand\n%s\nwant\n%s", p.what, channelInShort(second), channelInShort(kept), channelInShort(want))
	}
	if third := run(); !sameChannel(third, kept) || changed() {
		t.Errorf("%s: a third call answers something else", p.what)
	}
}

// memoryPlays leave something in every list of a report.
func memoryPlays() []channelPlay {
	all := schedulePlays()
	server := protocolServer()
	server.Window = windowOf(10, 6000, 4999, 5000)
	every := []impl.Step{deliverStep(serverEnd, 9), flushStep(), writeStep(clientEnd, "question"), writeStep(serverEnd, "answer"), timeStep(clientEnd, 3), updateStep(serverEnd, 1),
		deliverStep(clientEnd, 40), againStep(clientEnd, 0, 0), dropStep(serverEnd, 5), flipStep(serverEnd, 2, 7), writeStep(clientEnd, "more"), closeStep(serverEnd)}
	all = append(all, channelPlay{"something on the ways", protocolClient(), server, every})
	all = append(all, channelPlay{"and a forged word", protocolClient(), server, append(slices.Clone(every), forgeStep(serverEnd, 23, 0, 17), flushStep(), forgeStep(clientEnd, 1, 2, 3), writeStep(clientEnd, "late"))})
	for _, f := range flights() {
		all = append(all, channelPlay{"a flight", shopClient(), shopServer(), f.ahead})
	}
	refusing := earlyClient()
	refusing.Roots = nil
	all = append(all, channelPlay{"no root", refusing, strangerServer(), []impl.Step{flushStep()}})
	return append(all, channelPlay{"a fault", server, server, every}, channelPlay{"a step with a fault", protocolClient(), server, []impl.Step{{Data: []byte("x")}}})
}

func TestChannelMemory(t *testing.T) {
	t.Parallel()
	for _, p := range memoryPlays() {
		p.checkMemory(t)
	}
}

// All lists of both configurations, and the data of the steps, may be one room.
func TestChannelOfOneRoom(t *testing.T) {
	t.Parallel()
	room := randomList(rand.New(rand.NewSource(560)), 500)
	before := bytes.Clone(room)
	client, server := earlyClient(), shopServer()
	client.Seed, client.Early, server.Seed, server.TicketKey = room[3:35], room[10:60], room[3:35], room[7:39]
	server.Window = impl.Window{Width: 10, Marks: []impl.Mark{{Id: room[3:35], Until: 6000}, {Id: room[4:36], Until: 6000}}}
	client.Saved.Ticket = impl.SealTicket(server.TicketKey, upwards(12), shopState())
	steps := []impl.Step{flushStep(), {Kind: impl.StWrite, Data: room}, {Kind: impl.StWrite, End: 1, Data: room[100:]}, flushStep(), {Kind: impl.StFlip, End: 1, Data: room[:1]},
		{Kind: impl.StForge, End: 1, Data: room[40:90]}, {Kind: impl.StForge, Data: room}}
	r := checkHonest(t, "one room", client, server, steps...)
	if !r.Server.EarlyTaken || len(r.Server.Read) != 550 || len(r.Client.Read) != 400 {
		t.Errorf("one room: %s", channelInShort(r))
	}
	checkList(t, "room", room, before)
	spoilChannel(&r)
	checkList(t, "room", room, before)
}

func TestStepFaultMemory(t *testing.T) {
	t.Parallel()
	for _, kind := range append(allStepKinds(), 0, 11) {
		for _, size := range []int{0, 1, 2, 100} {
			g := guardSteps([]impl.Step{{Kind: kind, Data: upwards(size)}})
			if impl.StepFault(g.list[0]) != toldStepFault(g.list[0]) || g.changed() {
				t.Errorf("a step of kind %d with %d bytes and room behind them", kind, size)
			}
		}
	}
}

func TestAgreementMemory(t *testing.T) {
	t.Parallel()
	for _, r := range []impl.ChannelReport{agreedReport(), {}, {Client: agreedReport().Client}} {
		kept := cloneChannel(r)
		var guards []guardedList
		for _, list := range []*[]byte{&r.Client.Transcript, &r.Client.Exporter, &r.Server.Transcript, &r.Server.Exporter, &r.ToServer, &r.ToClient} {
			g := guard(*list)
			guards = append(guards, g)
			*list = g.list
		}
		if impl.Agreement(r) != toldAgreement(kept) || anyChanged(guards) || !sameChannel(r, kept) {
			t.Errorf("a report with room behind its lists: %s", channelInShort(r))
		}
	}
}
