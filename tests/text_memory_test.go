package tests

import (
	"bytes"
	"math/rand"
	"runtime"
	"slices"
	"strings"
	"sync"
	"testing"
	"unsafe"

	"loop.example/g00004/impl"
)

// The general rules 2 to 4 for chapter 20: worlds and reports stay as they are, a world that is read owns its memory, and
// nothing is kept.

func TestTextMemoryOfWorlds(t *testing.T) {
	t.Parallel()
	worlds := memoryWorlds()
	worlds["full"], worlds["bare"] = fullWorld(), bareWorld()
	for what, w := range worlds {
		g := guardWorld(w)
		first, second := impl.FormatWorld(g.world), impl.FormatWorld(g.world)
		if g.changed() {
			t.Errorf("%s: an argument or the room behind it was changed", what)
		}
		checkText(t, what, first, toldFormatWorld(w))
		checkText(t, what+", a second time", second, first)
	}
}

// guardedReport is a report whose lists have known room around them, and that is compared with what it was.
func guardedReport(r impl.WorldReport) (impl.WorldReport, func() bool) {
	kept, whole := cloneWorldReport(r), cloneWorldReport(r)
	var lists []guardedList
	around := func(list *[]byte) {
		g := guard(*list)
		lists, *list = append(lists, g), g.list
	}
	around(&whole.Saved.Ticket)
	around(&whole.Saved.Psk)
	around(&whole.Saved.Random)
	marks := guardMarks(whole.Window.Marks)
	whole.Window.Marks = marks.list
	for i := range whole.Channels {
		c := &whole.Channels[i]
		for _, list := range []*[]byte{&c.ToServer, &c.ToClient, &c.Client.Read, &c.Client.Exporter, &c.Client.Transcript, &c.Client.Sent, &c.Server.Read, &c.Server.Exporter, &c.Server.Transcript, &c.Server.Sent} {
			around(list)
		}
	}
	return whole, func() bool { return anyChanged(lists) || marks.changed() || !sameWorldReport(whole, kept) }
}

func TestTextMemoryOfReports(t *testing.T) {
	t.Parallel()
	r := rand.New(rand.NewSource(608))
	reports := []impl.WorldReport{{}, {Fault: 3}, impl.RunWorld(someWorld()), impl.RunWorld(fullWorld())}
	for range 200 {
		reports = append(reports, anyReport(r))
	}
	for _, report := range reports {
		guarded, changed := guardedReport(report)
		first, second := impl.FormatReport(guarded), impl.FormatReport(guarded)
		if changed() {
			t.Errorf("the report or the room behind it was changed: %s", worldInShort(report))
		}
		checkText(t, "a report", first, toldFormatReport(report))
		checkText(t, "a report, a second time", second, first)
	}
}

// listsOfTheWorld are all lists of bytes of a world.
func listsOfTheWorld(w impl.World) [][]byte {
	lists := append(listsOfConfig(w.Client), listsOfConfig(w.Server)...)
	for _, c := range w.Connections {
		lists = append(lists, c.Seed, c.Early)
		for _, s := range c.Steps {
			lists = append(lists, s.Data)
		}
	}
	return lists
}

// spoilRoom writes over a list and the room behind it.
func spoilRoom[T any](list []T, over T) {
	room := list[:cap(list)]
	for i := range room {
		room[i] = over
	}
}

// spoilWorld writes over every list of a world, the inner ones first.
func spoilWorld(w *impl.World) {
	for _, list := range listsOfTheWorld(*w) {
		spoil(list)
	}
	for _, c := range []*impl.EndConfig{&w.Client, &w.Server} {
		for _, cert := range c.Certs {
			for _, texts := range textsOfCert(cert) {
				spoilRoom(texts, "spoilt")
			}
		}
		spoilRoom(c.Protocols, "spoilt")
		spoilRoom(c.Roots, impl.Root{Subject: "spoilt"})
		spoilRoom(c.Certs, impl.Cert{Subject: "spoilt"})
		spoilRoom(c.Window.Marks, impl.Mark{Until: -77})
	}
	for _, c := range w.Connections {
		spoilRoom(c.Steps, impl.Step{Kind: -77})
	}
	spoilRoom(w.Connections, impl.Connection{Gap: -77})
}

// checkReadApart spoils the lists of bytes of a world one by one, and asks whether another one goes along.
func checkReadApart(t *testing.T, what string, w impl.World) {
	t.Helper()
	lists := listsOfTheWorld(w)
	rooms := wholeRooms(lists)
	for i, list := range lists {
		spoil(list)
		for j, room := range wholeRooms(lists) {
			if j != i && !bytes.Equal(room, rooms[j]) {
				t.Errorf("%s: lists %d and %d of the world share memory", what, i, j)
			}
		}
		spoil(list)
	}
}

// checkStepsApart writes into the room behind the steps of each connection, and asks those of the others.
func checkStepsApart(t *testing.T, what string, w impl.World) {
	t.Helper()
	for i, c := range w.Connections {
		if slices.ContainsFunc(c.Steps, func(s impl.Step) bool { return s.Kind == -77 }) {
			t.Errorf("%s: the steps of connection %d share memory with those of one ahead of it", what, i)
		}
		spoilRoom(c.Steps, impl.Step{Kind: -77})
	}
}

// isPieceOf tells whether a text lies in the memory of another.
func isPieceOf(piece string, whole string) bool {
	if piece == "" || whole == "" {
		return false
	}
	at, start := uintptr(unsafe.Pointer(unsafe.StringData(piece))), uintptr(unsafe.Pointer(unsafe.StringData(whole)))
	return at >= start && at < start+uintptr(len(whole))
}

func TestTextMemoryOfWhatIsRead(t *testing.T) {
	t.Parallel()
	worlds := memoryWorlds()
	worlds["full"], worlds["bare"] = fullWorld(), bareWorld()
	for what, w := range worlds {
		text := impl.FormatWorld(w)
		if text == "" {
			continue
		}
		kept := strings.Clone(text)
		first, second, third := impl.ParseWorld(text), impl.ParseWorld(text), impl.ParseWorld(text)
		checkReadApart(t, what, first.World)
		spoilWorld(&first.World)
		checkStepsApart(t, what, third.World)
		if !second.Good || !sameWorld(second.World, w) || !sameWorld(impl.ParseWorld(text).World, w) {
			t.Errorf("%s: two worlds that were read share memory", what)
		}
		checkText(t, what, text, kept)
		for _, piece := range []string{second.World.Client.Host, second.World.Client.Saved.Host, second.World.Client.Saved.Protocol} {
			if isPieceOf(piece, text) {
				t.Errorf("%s: %q is a piece of the text", what, piece)
			}
		}
	}
}

// Many texts at once: each is served as it is alone.
func TestServeManyAtOnce(t *testing.T) {
	t.Parallel()
	for what, w := range memoryWorlds() {
		text, want := impl.FormatWorld(w), "bad\n"
		if toldWorldFault(w) == 0 {
			want = toldFormatReport(toldRunWorld(w))
		}
		got := make([]string, 12)
		var done sync.WaitGroup
		for i := range got {
			done.Go(func() { got[i] = impl.Serve(text) })
		}
		done.Wait()
		for _, one := range got {
			checkText(t, what, one, want)
		}
	}
}

// Not beside other tests, as these have goroutines of their own.
func TestServeLeavesNothingRunning(t *testing.T) {
	before := runtime.NumGoroutine()
	for what, w := range memoryWorlds() {
		text := impl.FormatWorld(w)
		impl.Serve(text)
		impl.Serve(text + "dance\n")
		if count := countedDown(before); count > before {
			t.Fatalf("%s: %d goroutines were there, and %d are", what, before, count)
		}
	}
}
