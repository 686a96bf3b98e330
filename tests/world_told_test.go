package tests

import (
	"bytes"
	"fmt"
	"math"
	"slices"
	"testing"

	"loop.example/g00004/impl"
)

// Chapter 19 done another way: nothing goes on from connection to connection but the reports; whatever a connection begins
// with is looked for anew in those ahead of it.

const notCopied = -1

// visit is a connection of a client; its seed comes when it is put into a world.
func visit(gap int64, early string, steps ...impl.Step) impl.Connection {
	return impl.Connection{Gap: gap, Copied: notCopied, Early: []byte(early), Steps: steps}
}

// flushed is a visit over a network that only delivers.
func flushed(gap int64, early string, steps ...impl.Step) impl.Connection {
	return visit(gap, early, append([]impl.Step{flushStep()}, steps...)...)
}

// copyOf is a copy of all that the client of another connection sent.
func copyOf(number int64, gap int64) impl.Connection {
	return impl.Connection{Gap: gap, Copied: number}
}

// worldOf gives each connection a seed of its own that has none.
func worldOf(client impl.EndConfig, server impl.EndConfig, list ...impl.Connection) impl.World {
	list = slices.Clone(list)
	for i := range list {
		if len(list[i].Seed) == 0 {
			list[i].Seed = seedNumber(100 + i)
		}
	}
	return impl.World{Client: client, Server: server, Connections: list}
}

func shopWorld(list ...impl.Connection) impl.World {
	return worldOf(shopClient(), shopServer(), list...)
}

// withoutEarly is a client as it may be in a world: there the early data come with the connections.
func withoutEarly(client impl.EndConfig) impl.EndConfig {
	client.Early = nil
	return client
}

func toldIsCopy(c impl.Connection) bool {
	return c.Copied != notCopied
}

// originals are the numbers of the connections that may be copied by the one at a place.
func originals(list []impl.Connection, place int) []int64 {
	var all []int64
	for i, c := range list[:place] {
		if !toldIsCopy(c) {
			all = append(all, int64(i))
		}
	}
	return all
}

func toldConnectionFits(list []impl.Connection, place int) bool {
	c := list[place]
	wrong := func(s impl.Step) bool { return toldStepFault(s) != 0 }
	fits := toldBetween(c.Gap, 0, lastTime) && len(c.Seed) == 32 && len(c.Early) < 4097 && len(c.Steps) < 201 && !slices.ContainsFunc(c.Steps, wrong)
	if toldIsCopy(c) {
		fits = fits && slices.Contains(originals(list, place), c.Copied) && len(c.Early)+len(c.Steps) == 0
	}
	return fits
}

// toldNothing tells whether there is nothing in a configuration, as a text; an empty list is as none.
func toldNothing(c impl.EndConfig) bool {
	return fmt.Sprint(c) == fmt.Sprint(impl.EndConfig{})
}

func toldWorldFault(w impl.World) int64 {
	fed, fits := 0, true
	for i, c := range w.Connections {
		fits = fits && toldConnectionFits(w.Connections, i)
		for _, s := range c.Steps {
			fed += len(s.Data)
		}
	}
	ofServer := impl.EndConfig{Certs: w.Client.Certs, KeySeed: w.Client.KeySeed, TicketKey: w.Client.TicketKey, Life: w.Client.Life,
		EarlyMost: w.Client.EarlyMost, Window: w.Client.Window, Early: w.Client.Early}
	ofClient := impl.EndConfig{Host: w.Server.Host, Roots: w.Server.Roots, Saved: w.Server.Saved, Early: w.Server.Early}
	holds := []bool{!w.Client.Server && toldConfig(w.Client) == 0, w.Server.Server && toldConfig(w.Server) == 0, toldNothing(ofServer), toldNothing(ofClient),
		len(w.Connections) < 9, fits, fed < 200001}
	return int64(slices.Index(holds, false) + 1)
}

type toldWorld struct {
	w       impl.World
	reports []impl.ChannelReport
}

// clock is that of an end ahead of the connection at a place, its gap counted.
func (n *toldWorld) clock(place int, end int64) int64 {
	now := []int64{n.w.Client.Now, n.w.Server.Now}[end]
	for i, c := range n.w.Connections[:place+1] {
		now = min(now+c.Gap, lastTime)
		if i < place && (end == serverEnd || !toldIsCopy(c)) {
			now = sideOf(&n.reports[i], end).Now
		}
	}
	return now
}

// saved is the last ticket that came.
func (n *toldWorld) saved() impl.Saved {
	for _, r := range slices.Backward(n.reports) {
		if len(r.Client.Saved.Ticket) > 0 {
			return r.Client.Saved
		}
	}
	return n.w.Client.Saved
}

func (n *toldWorld) window() impl.Window {
	if len(n.reports) == 0 {
		return n.w.Server.Window
	}
	return n.reports[len(n.reports)-1].Server.Window
}

func (n *toldWorld) clientOf(place int) impl.EndConfig {
	c, config := n.w.Connections[place], n.w.Client
	config.Seed, config.Early, config.Saved, config.Now = c.Seed, c.Early, n.saved(), n.clock(place, clientEnd)
	return config
}

func (n *toldWorld) serverOf(place int) impl.EndConfig {
	config := n.w.Server
	config.Seed, config.Window, config.Now = impl.Expand(n.w.Connections[place].Seed, []byte("server"), 32), n.window(), n.clock(place, serverEnd)
	return config
}

func (n *toldWorld) connect(place int) impl.ChannelReport {
	c := n.w.Connections[place]
	if !toldIsCopy(c) {
		return toldChannel(n.clientOf(place), n.serverOf(place), c.Steps)
	}
	server := playEnd(n.serverOf(place))
	server.take(bytesEvent(n.reports[c.Copied].Client.Sent))
	return impl.ChannelReport{Server: server.r, ToClient: server.r.Sent}
}

func toldRunWorld(w impl.World) impl.WorldReport {
	if fault := toldWorldFault(w); fault != 0 {
		return impl.WorldReport{Fault: fault}
	}
	n := &toldWorld{w: w}
	for place := range w.Connections {
		n.reports = append(n.reports, n.connect(place))
	}
	return impl.WorldReport{Channels: n.reports, Saved: n.saved(), Window: n.window()}
}

func sameWorldReport(a impl.WorldReport, b impl.WorldReport) bool {
	return a.Fault == b.Fault && slices.EqualFunc(a.Channels, b.Channels, sameChannel) && sameSaved(a.Saved, b.Saved) && sameWindow(a.Window, b.Window)
}

func savedInShort(s impl.Saved) string {
	return fmt.Sprintf("a ticket of %d bytes %x got at %d for %d, host %q, protocol %q, early %d", len(s.Ticket), beginning(s.Ticket), s.Got, s.Life, s.Host, s.Protocol, s.Early)
}

func worldInShort(r impl.WorldReport) string {
	text := fmt.Sprintf("fault %d, saved %s, window %s", r.Fault, savedInShort(r.Saved), windowInShort(r.Window))
	for i, c := range r.Channels {
		text += fmt.Sprintf("\n %d: %s", i, channelInShort(c))
	}
	return text
}

func connectionsInShort(list []impl.Connection) string {
	text := ""
	for i, c := range list {
		text += fmt.Sprintf("\n %d: gap %d, copied %d, %d bytes early,%s", i, c.Gap, c.Copied, len(c.Early), stepsInShort(c.Steps))
	}
	return text
}

// checkWorld holds the program to the chapter done another way, and to what is so of every world in which nobody forges the
// Hello of another connection.
func checkWorld(t *testing.T, what string, w impl.World) impl.WorldReport {
	t.Helper()
	r := checkWorldTold(t, what, w)
	checkTakenOnce(t, what, w, r)
	return r
}

func checkWorldTold(t *testing.T, what string, w impl.World) impl.WorldReport {
	t.Helper()
	got, want := impl.RunWorld(w), toldRunWorld(w)
	if !sameWorldReport(got, want) {
		t.Errorf("%s:%s\ngot  %s\nwant %s", what, connectionsInShort(w.Connections), worldInShort(got), worldInShort(want))
	}
	if got.Fault != 0 || len(got.Channels) != len(w.Connections) {
		t.Fatalf("%s: the fault %d, and %d reports of %d connections", what, got.Fault, len(got.Channels), len(w.Connections))
	}
	for i, r := range got.Channels {
		if impl.Agreement(r) == impl.AgreeNever {
			t.Errorf("%s: the ends of connection %d disagree: %s", what, i, channelInShort(r))
		}
		if toldIsCopy(w.Connections[i]) {
			checkCopyReport(t, what, r, w, i)
		}
	}
	return got
}

// checkCopyReport asks for what every report of a copy has, and what it has not.
func checkCopyReport(t *testing.T, what string, r impl.ChannelReport, w impl.World, place int) {
	t.Helper()
	if r.Fault != 0 || len(r.Answers) != 0 || len(r.Server.Answers) != 0 || len(r.ToServer) != 0 || !sameReport(r.Client, impl.EndReport{}) {
		t.Errorf("%s: not all that is no part of a copy is zero: %s", what, channelInShort(r))
	}
	if !bytes.Equal(r.ToClient, r.Server.Sent) {
		t.Errorf("%s: the server of a copy has sent %d bytes, and %d are on the way", what, len(r.Server.Sent), len(r.ToClient))
	}
	// Only a server that makes the same of its seed once more can be opened by a copy.
	copied := w.Connections[place].Copied
	isFresh := !bytes.Equal(w.Connections[place].Seed, w.Connections[copied].Seed)
	if isFresh && (r.Server.Phase == impl.PhaseOpen || r.Server.Phase == impl.PhaseClosed) {
		t.Errorf("%s: a copy opens a server: %s", what, channelInShort(r))
	}
}

// helloOf is the first record that a client sent.
func helloOf(r impl.ChannelReport) string {
	records := impl.CutRecords(r.Client.Sent).Records
	if len(records) == 0 {
		return ""
	}
	return string(records[0].Body)
}

// takenBy counts how often the early data of each Hello are taken, among all connections with this Hello and their copies.
func takenBy(w impl.World, r impl.WorldReport) map[string]int {
	taken := map[string]int{}
	for i, c := range w.Connections {
		from := i
		if toldIsCopy(c) {
			from = int(c.Copied)
		}
		if r.Channels[i].Server.EarlyTaken {
			taken[helloOf(r.Channels[from])]++
		}
	}
	return taken
}

// checkTakenOnce holds promise 31.
func checkTakenOnce(t *testing.T, what string, w impl.World, r impl.WorldReport) {
	t.Helper()
	for hello, count := range takenBy(w, r) {
		if count > 1 {
			t.Errorf("%s:%s\nthe early data of the Hello %x were taken %d times", what, connectionsInShort(w.Connections), beginning([]byte(hello)), count)
		}
	}
}

// takenAt are the numbers of the connections in which early data were taken.
func takenAt(r impl.WorldReport) []int {
	var all []int
	for i, c := range r.Channels {
		if c.Server.EarlyTaken {
			all = append(all, i)
		}
	}
	return all
}

// farNumbers are no numbers of connections in any world.
func farNumbers() []int64 {
	return []int64{-2, -3, 8, 9, 1 << 31, 1 << 32, -1 << 32, 1<<32 - 1, math.MaxInt64, math.MinInt64, math.MaxInt64 - 1}
}
