package tests

import (
	"bytes"
	"math/rand"
	"slices"
	"testing"

	"loop.example/g00004/impl"
)

// The general rules 2 to 4 for chapter 17: configurations and events stay as they are, and a report owns its memory.

// guardedConfig has all its lists guarded.
type guardedConfig struct {
	config    impl.EndConfig
	lists     []guardedList
	protocols guardedTexts
	roots     guardedRoots
	certs     guardedCerts
	marks     guardedMarks
}

func guardConfig(c impl.EndConfig) guardedConfig {
	g := guardedConfig{config: c, protocols: guardTexts(c.Protocols), roots: guardRoots(c.Roots), certs: guardCerts(c.Certs), marks: guardMarks(c.Window.Marks)}
	for _, list := range []*[]byte{&g.config.Seed, &g.config.Saved.Ticket, &g.config.Saved.Psk, &g.config.Saved.Random, &g.config.Early, &g.config.KeySeed, &g.config.TicketKey} {
		guarded := guard(*list)
		g.lists = append(g.lists, guarded)
		*list = guarded.list
	}
	g.config.Protocols, g.config.Roots, g.config.Certs, g.config.Window.Marks = g.protocols.list, g.roots.list, g.certs.list, g.marks.list
	return g
}

func (g guardedConfig) changed() bool {
	return anyChanged(g.lists) || g.protocols.changed() || g.roots.changed() || g.certs.changed() || g.marks.changed()
}

// guardedEvents is a list with known events ahead of it and in the room behind it, each with guarded data.
type guardedEvents struct {
	list   []impl.Event
	whole  []impl.Event
	before []impl.Event
	data   []guardedList
}

func sameEvent(a impl.Event, b impl.Event) bool {
	return a.Kind == b.Kind && a.Number == b.Number && bytes.Equal(a.Data, b.Data)
}

func guardEvents(events []impl.Event) guardedEvents {
	var g guardedEvents
	strangers := []impl.Event{eventOf(77, 78, "stranger"), eventOf(79, 80, "another")}
	for _, event := range slices.Concat(strangers, events, strangers) {
		data := guard(event.Data)
		g.data = append(g.data, data)
		g.whole = append(g.whole, impl.Event{Kind: event.Kind, Number: event.Number, Data: data.list})
		g.before = append(g.before, impl.Event{Kind: event.Kind, Number: event.Number, Data: bytes.Clone(event.Data)})
	}
	g.list = g.whole[2 : 2+len(events)]
	return g
}

func (g guardedEvents) changed() bool {
	return anyChanged(g.data) || !slices.EqualFunc(g.whole, g.before, sameEvent)
}

func listsOfReport(r impl.EndReport) [][]byte {
	return append([][]byte{r.Sent, r.Read, r.Exporter, r.Transcript, r.Saved.Ticket, r.Saved.Psk, r.Saved.Random}, idsOf(r.Window)...)
}

func cloneReport(r impl.EndReport) impl.EndReport {
	r.Answers = slices.Clone(r.Answers)
	for _, list := range []*[]byte{&r.Sent, &r.Read, &r.Exporter, &r.Transcript, &r.Saved.Ticket, &r.Saved.Psk, &r.Saved.Random} {
		*list = bytes.Clone(*list)
	}
	r.Window = cloneWindow(r.Window)
	return r
}

func spoilReport(r *impl.EndReport) {
	for _, list := range listsOfReport(*r) {
		spoil(list)
	}
	room := r.Answers[:cap(r.Answers)]
	for i := range room {
		room[i] = -77
	}
	marks := r.Window.Marks[:cap(r.Window.Marks)]
	for i := range marks {
		marks[i] = impl.Mark{Until: -77}
	}
}

// checkListsApart spoils the lists of a report one by one, and asks whether another one or an argument goes along.
func checkListsApart(t *testing.T, what string, r impl.EndReport, changed func() bool) {
	t.Helper()
	lists := listsOfReport(r)
	rooms := wholeRooms(lists)
	for i, list := range lists {
		spoil(list)
		for j, room := range wholeRooms(lists) {
			if j != i && !bytes.Equal(room, rooms[j]) {
				t.Errorf("%s: lists %d and %d of the report share memory", what, i, j)
			}
		}
		spoil(list)
	}
	if changed() {
		t.Errorf("%s: a list of the report shares memory with an argument", what)
	}
}

func checkEndMemory(t *testing.T, s script) {
	t.Helper()
	want := toldRun(s.config, s.events)
	config, events := guardConfig(s.config), guardEvents(s.events)
	changed := func() bool { return config.changed() || events.changed() }
	first, second := impl.RunEnd(config.config, events.list), impl.RunEnd(config.config, events.list)
	if changed() {
		t.Errorf("%s: an argument or the room behind it was changed", s.what)
		return
	}
	kept := cloneReport(first)
	checkListsApart(t, s.what, first, changed)
	spoilReport(&first)
	if changed() || !sameReport(second, kept) || !sameReport(kept, want) {
		t.Errorf("%s: two calls\n%s\nand\n%s\nwant\n%s", s.what, reportInShort(second), reportInShort(kept), reportInShort(want))
	}
	if third := impl.RunEnd(config.config, events.list); !sameReport(third, kept) || changed() {
		t.Errorf("%s: a third call answers something else", s.what)
	}
}

func memoryScripts() []script {
	all := shortScripts()
	for _, s := range append(waitingSituations(), openSituations()...) {
		all = append(all, scriptOf(s.what, s.play))
	}
	all = append(all, scriptOf("a client with a ticket", openClient()), scriptOf("a server with a ticket", openServer()))
	client, server := protocolClient(), protocolServer()
	server.Window = windowOf(10, 6000, 4999, 5000)
	all = append(all, scriptOf("a window that was asked", playServer(client, server).open()), scriptOf("with protocols", playClient(client, server).back().open()))
	server.EarlyMost = 0
	all = append(all, scriptOf("a window that was not asked", playServer(client, server).open()))
	wrong := client
	wrong.Seed = nil
	all = append(all, script{"a fault", wrong, nil}, script{"too many events", client, make([]impl.Event, 401)})
	return append(all, scriptOf("writing", openServer().do(writing("many words")).do(impl.Event{Kind: impl.EvWrite, Data: upwards(5000)}).do(updating(1))))
}

func TestEndMemory(t *testing.T) {
	t.Parallel()
	for _, s := range memoryScripts() {
		checkEndMemory(t, s)
	}
}

// All lists of a configuration, and the data of the events, may be one room.
func TestEndsOfOneRoom(t *testing.T) {
	t.Parallel()
	room := randomList(rand.New(rand.NewSource(399)), 500)
	before := bytes.Clone(room)
	client := shopClient()
	client.Seed, client.Early = room[3:35], room[10:60]
	client.Saved = impl.Saved{Ticket: room[:400], Psk: room[7:39], Random: room[9:41], Got: 4900, Life: 500, Host: shopHost, Early: 4096}
	server := shopServer()
	server.Seed, server.TicketKey = room[3:35], room[7:39]
	server.Window = impl.Window{Width: 4, Marks: []impl.Mark{{Id: room[3:35], Until: 6000}, {Id: room[4:36], Until: 6000}}}
	checkRun(t, "client", client, []impl.Event{{Kind: impl.EvBytes, Data: room[1:90]}, {Kind: impl.EvBytes, Data: room}})
	playServer(shopClient(), server).open().checkOpen(t, "server")
	checkRun(t, "server", server, []impl.Event{{Kind: impl.EvBytes, Data: room[1:90]}})
	checkList(t, "room", room, before)
}

func TestFaultMemory(t *testing.T) {
	t.Parallel()
	for _, change := range configChanges(t) {
		for _, c := range []impl.EndConfig{shopClient(), shopServer()} {
			change.change(&c)
			g := guardConfig(c)
			if impl.ConfigFault(g.config) != toldConfig(c) || impl.SavedFault(g.config.Saved, 5000) != toldSaved(c.Saved, 5000) || g.changed() {
				t.Errorf("%s with room behind its lists: the fault %d", change.what, impl.ConfigFault(g.config))
			}
		}
	}
}
