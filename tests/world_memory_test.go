package tests

import (
	"bytes"
	"math/rand"
	"runtime"
	"slices"
	"sync"
	"testing"

	"loop.example/g00004/impl"
)

// The general rules 2 to 4 for chapter 19: worlds stay as they are, a report owns its memory, and nothing is kept or left
// running.

// guardedConnections is a list with known connections ahead of it and in the room behind it, each with guarded lists.
type guardedConnections struct {
	list   []impl.Connection
	whole  []impl.Connection
	before []impl.Connection
	lists  []guardedList
	steps  []guardedSteps
}

func sameConnection(a impl.Connection, b impl.Connection) bool {
	return a.Gap == b.Gap && bytes.Equal(a.Seed, b.Seed) && a.Copied == b.Copied && bytes.Equal(a.Early, b.Early) && slices.EqualFunc(a.Steps, b.Steps, sameStep)
}

func guardConnections(list []impl.Connection) guardedConnections {
	var g guardedConnections
	strangers := []impl.Connection{{Gap: 77, Seed: []byte("stranger"), Copied: 78, Early: []byte("early")}, {Gap: 79, Steps: []impl.Step{{Kind: 80}}}}
	for _, c := range slices.Concat(strangers, list, strangers) {
		seed, early, steps := guard(c.Seed), guard(c.Early), guardSteps(c.Steps)
		g.lists, g.steps = append(g.lists, seed, early), append(g.steps, steps)
		kept := c
		kept.Seed, kept.Early, kept.Steps = bytes.Clone(c.Seed), bytes.Clone(c.Early), slices.Clone(c.Steps)
		c.Seed, c.Early, c.Steps = seed.list, early.list, steps.list
		g.whole, g.before = append(g.whole, c), append(g.before, kept)
	}
	g.list = g.whole[2 : 2+len(list)]
	return g
}

func (g guardedConnections) changed() bool {
	return anyChanged(g.lists) || slices.ContainsFunc(g.steps, guardedSteps.changed) || !slices.EqualFunc(g.whole, g.before, sameConnection)
}

type guardedWorld struct {
	world       impl.World
	client      guardedConfig
	server      guardedConfig
	connections guardedConnections
}

func guardWorld(w impl.World) guardedWorld {
	g := guardedWorld{client: guardConfig(w.Client), server: guardConfig(w.Server), connections: guardConnections(w.Connections)}
	g.world = impl.World{Client: g.client.config, Server: g.server.config, Connections: g.connections.list}
	return g
}

func (g guardedWorld) changed() bool {
	return g.client.changed() || g.server.changed() || g.connections.changed()
}

func listsOfWorld(r impl.WorldReport) [][]byte {
	lists := append([][]byte{r.Saved.Ticket, r.Saved.Psk, r.Saved.Random}, idsOf(r.Window)...)
	for _, c := range r.Channels {
		lists = append(lists, listsOfChannel(c)...)
	}
	return lists
}

func cloneWorldReport(r impl.WorldReport) impl.WorldReport {
	kept := impl.WorldReport{Fault: r.Fault, Saved: r.Saved, Window: cloneWindow(r.Window)}
	for _, list := range []*[]byte{&kept.Saved.Ticket, &kept.Saved.Psk, &kept.Saved.Random} {
		*list = bytes.Clone(*list)
	}
	for _, c := range r.Channels {
		kept.Channels = append(kept.Channels, cloneChannel(c))
	}
	return kept
}

func spoilMarks(w *impl.Window) {
	marks := w.Marks[:cap(w.Marks)]
	for i := range marks {
		marks[i] = impl.Mark{Until: -77}
	}
}

func spoilWorldReport(r *impl.WorldReport) {
	for _, list := range listsOfWorld(*r)[:3+len(r.Window.Marks)] {
		spoil(list)
	}
	spoilMarks(&r.Window)
	room := r.Channels[:cap(r.Channels)]
	for i := range room {
		spoilChannel(&room[i])
		room[i] = impl.ChannelReport{Fault: -77}
	}
}

// checkWorldApart spoils the lists of a report one by one, and asks whether another one goes along.
func checkWorldApart(t *testing.T, what string, r impl.WorldReport) {
	t.Helper()
	lists := listsOfWorld(r)
	rooms := wholeRooms(lists)
	for i, list := range lists {
		spoil(list)
		for j, room := range wholeRooms(lists) {
			if j != i && !bytes.Equal(room, rooms[j]) {
				t.Errorf("%s: lists %d and %d of the report share memory", what, i, j)
			}
		}
		spoil(list)
	}
}

// windowsOf are all windows of a report, that which is left first.
func windowsOf(r *impl.WorldReport) []*impl.Window {
	all := []*impl.Window{&r.Window}
	for i := range r.Channels {
		all = append(all, &r.Channels[i].Client.Window, &r.Channels[i].Server.Window)
	}
	return all
}

// checkMarksApart does the same with the lists of marks, and with those of answers. It leaves nothing of the report.
func checkMarksApart(t *testing.T, what string, r impl.WorldReport) {
	t.Helper()
	for i, w := range windowsOf(&r) {
		if slices.ContainsFunc(w.Marks, func(m impl.Mark) bool { return m.Until == -77 }) {
			t.Errorf("%s: window %d of the report shares memory with one ahead of it", what, i)
		}
		spoilMarks(w)
	}
	for i, c := range r.Channels {
		if slices.Contains(c.Answers, -77) {
			t.Errorf("%s: the answers of connection %d share memory with those of one ahead of it", what, i)
		}
		room := c.Answers[:cap(c.Answers)]
		for j := range room {
			room[j] = -77
		}
	}
}

func checkWorldMemory(t *testing.T, what string, w impl.World) {
	t.Helper()
	want := toldRunWorld(w)
	g := guardWorld(w)
	first, second, third := impl.RunWorld(g.world), impl.RunWorld(g.world), impl.RunWorld(g.world)
	if g.changed() {
		t.Errorf("%s: an argument or the room behind it was changed", what)
		return
	}
	kept := cloneWorldReport(first)
	checkWorldApart(t, what, first)
	spoilWorldReport(&first)
	checkMarksApart(t, what, third)
	if g.changed() {
		t.Errorf("%s: a list of the report shares memory with an argument", what)
	}
	if !sameWorldReport(second, kept) || !sameWorldReport(kept, want) {
		t.Errorf("%s: two calls\n%s\nand\n%s\nwant\n%s", what, worldInShort(second), worldInShort(kept), worldInShort(want))
	}
	if last := impl.RunWorld(g.world); !sameWorldReport(last, kept) || g.changed() {
		t.Errorf("%s: a call behind it answers something else", what)
	}
}

// memoryWorlds leave something in every list of a report, some of it from the arguments.
func memoryWorlds() map[string]impl.World {
	back, marked := withoutEarly(protocolClient()), protocolServer()
	marked.Window = windowOf(10, 6000, 4999, 5000)
	all := map[string]impl.World{
		"no connections":                          shopWorld(),
		"no connections, something saved":         worldOf(back, marked),
		"some":                                    someWorld(),
		"nothing comes, something saved":          worldOf(back, marked, visit(1, "early", lost())),
		"a copy of what never came":               worldOf(back, marked, visit(1, "early", lost()), copyOf(0, 1)),
		"a copy of nothing early":                 worldOf(back, marked, visit(1, ""), copyOf(0, 1)),
		"the ticket and the window go on":         worldOf(back, marked, speaking(0, "early"), speaking(1, "early"), visit(1, "", lost()), visit(1, "early", lost())),
		"a window that is not asked":              worldOf(back, marked, speaking(0, ""), copyOf(0, 3), copyOf(0, 1)),
		"something is left on the ways":           worldOf(back, marked, flushed(0, "early", writeStep(clientEnd, "a"), writeStep(serverEnd, "b")), visit(1, ""), copyOf(0, 5), copyOf(1, 5), visit(2, "early")),
		"ends that fail":                          worldOf(back, marked, visit(0, "early", forgeStep(serverEnd, 9)), flushed(1, "early", forgeStep(clientEnd, 9)), copyOf(0, 1), copyOf(1, 1)),
		"a fault":                                 worldOf(marked, marked, flushed(0, "")),
		"a connection with a fault":               worldOf(back, marked, flushed(0, ""), copyOf(7, 0)),
		"a step with a fault, and much behind it": shopWorld(visit(0, "early", impl.Step{Data: upwards(50)}), copyOf(0, 1)),
	}
	return all
}

func TestWorldMemory(t *testing.T) {
	t.Parallel()
	for what, w := range memoryWorlds() {
		checkWorldMemory(t, what, w)
	}
	r := rand.New(rand.NewSource(594))
	for range 12 {
		checkWorldMemory(t, "random", randomWorld(r))
	}
}

func TestWorldFaultMemory(t *testing.T) {
	t.Parallel()
	for what, w := range memoryWorlds() {
		g := guardWorld(w)
		if got := impl.WorldFault(g.world); got != toldWorldFault(w) || g.changed() {
			t.Errorf("%s, with room behind its lists: the fault %d", what, got)
		}
	}
}

// All lists of a world may be one room.
func TestWorldOfOneRoom(t *testing.T) {
	t.Parallel()
	room := randomList(rand.New(rand.NewSource(595)), 500)
	before := bytes.Clone(room)
	w := shopWorld(flushed(0, ""), flushed(1, ""), copyOf(1, 1), flushed(1, ""))
	w.Client.Seed, w.Server.Seed, w.Server.TicketKey = room[3:35], room[3:35], room[7:39]
	w.Server.Window = impl.Window{Width: 10, Marks: []impl.Mark{{Id: room[3:35], Until: 6000}, {Id: room[4:36], Until: 6000}}}
	for i := range w.Connections {
		w.Connections[i].Seed = room[i : i+32]
		if !toldIsCopy(w.Connections[i]) {
			w.Connections[i].Early = room[10+i : 60]
			w.Connections[i].Steps = append(w.Connections[i].Steps, impl.Step{Kind: impl.StWrite, Data: room}, impl.Step{Kind: impl.StForge, End: 1, Data: room[40:90]}, impl.Step{Kind: impl.StForge, Data: room[9:]})
		}
	}
	r := checkWorld(t, "one room", w)
	if !slices.Equal(takenAt(r), []int{1, 3}) {
		t.Errorf("one room: %s", worldInShort(r))
	}
	checkList(t, "room", room, before)
	spoilWorldReport(&r)
	checkList(t, "room", room, before)
}

// Many worlds at once, all of the same arguments: none of them writes into those, and each has a window of its own.
func TestWorldManyAtOnce(t *testing.T) {
	t.Parallel()
	for what, w := range memoryWorlds() {
		want := toldRunWorld(w)
		got := make([]impl.WorldReport, 12)
		var done sync.WaitGroup
		for i := range got {
			done.Go(func() { got[i] = impl.RunWorld(w) })
		}
		done.Wait()
		for i, one := range got {
			if !sameWorldReport(one, want) {
				t.Errorf("%s, run %d:\ngot  %s\nwant %s", what, i, worldInShort(one), worldInShort(want))
			}
		}
	}
}

// Whatever the answer is, all goroutines have ended. Not beside other tests, as these have goroutines of their own.
func TestWorldLeavesNothingRunning(t *testing.T) {
	before := runtime.NumGoroutine()
	for what, w := range memoryWorlds() {
		for range 3 {
			impl.RunWorld(w)
		}
		if count := countedDown(before); count > before {
			t.Fatalf("%s: %d goroutines were there, and %d are", what, before, count)
		}
	}
}
