package tests

import (
	"bytes"
	"fmt"
	"math/rand"
	"slices"
	"testing"

	"loop.example/g00004/impl"
)

// Promise 31: early data of one Hello are taken at most once, among the connection and all its copies.

// shifted is a first connection behind which the client's clock has gone on by so many seconds more than the server's.
func shifted(seconds int64) impl.Connection {
	if seconds < 0 {
		return flushed(0, "", timeStep(serverEnd, -seconds))
	}
	return flushed(0, "", timeStep(clientEnd, seconds))
}

// copiesWorld is a first connection, one with early data that come to the server or are lost, and copies of it.
func copiesWorld(width int64, shift int64, isLost bool, gaps ...int64) impl.World {
	early := flushed(3, "early")
	if isLost {
		early.Steps = []impl.Step{lost()}
	}
	list := []impl.Connection{shifted(shift), early}
	for _, gap := range gaps {
		list = append(list, copyOf(1, gap))
	}
	w := shopWorld(list...)
	w.Server.Window.Width = width
	return w
}

// firstFit is where the age that the client says fits for the first time: at the second connection the server's clock is off
// by the shift, and each gap brings it on.
func firstFit(width int64, shift int64, isLost bool, gaps ...int64) []int {
	if !isLost && max(shift, -shift) <= width {
		return []int{1}
	}
	for i, gap := range gaps {
		shift -= gap
		if max(shift, -shift) <= width {
			return []int{i + 2}
		}
	}
	return nil
}

// checkFirstFit asks for early data that are taken where they fit for the first time, and never again.
func checkFirstFit(t *testing.T, width int64, shift int64, isLost bool, gaps ...int64) []int {
	t.Helper()
	what := fmt.Sprintf("width %d, shift %d, lost %v, gaps %v", width, shift, isLost, gaps)
	r := checkWorld(t, what, copiesWorld(width, shift, isLost, gaps...))
	taken, want := takenAt(r), firstFit(width, shift, isLost, gaps...)
	if !slices.Equal(taken, want) {
		t.Errorf("%s: taken at %v, not at %v", what, taken, want)
	}
	for i, c := range r.Channels[1:] {
		read := ""
		if slices.Contains(want, i+1) {
			read = "early"
		}
		if string(c.Server.Read) != read || c.Server.EarlyRead != int64(len(read)) {
			t.Errorf("%s: at %d the server has read %q, not %q", what, i+1, c.Server.Read, read)
		}
	}
	return taken
}

// Copies at the times that stand beside the ends of a mark and of an age, the Hello's own way open or closed.
func TestPromise31WorldCopies(t *testing.T) {
	t.Parallel()
	for _, width := range []int64{0, 1, 10} {
		t.Run(fmt.Sprint("width ", width), func(t *testing.T) {
			t.Parallel()
			seen := map[int]int{}
			for _, shift := range []int64{-width - 1, -width, -1, 0, 1, width, width + 1, 2*width + 1, 30} {
				for _, isLost := range []bool{false, true} {
					for _, gaps := range [][]int64{{0, 0, 0}, {1, 1, 1, 1, 1, 1}, {width, 1, width, 1}, {2 * width, 1, 1}, {width + 1, width, width}, {2*width + 1, 0}, {30, 0, 1}} {
						for _, at := range checkFirstFit(t, width, shift, isLost, gaps...) {
							seen[at]++
						}
					}
				}
			}
			if seen[1] == 0 || seen[2] == 0 || seen[3] == 0 {
				t.Errorf("they were taken at %v", seen)
			}
		})
	}
}

// In the widest window a mark lives longer than most tickets.
func TestPromise31WorldWidest(t *testing.T) {
	t.Parallel()
	for _, gaps := range [][]int64{{1, 86400, 86400, 1}, {86400, 1, 86400}, {172800, 1}, {172801, 0}, {86399, 1, 1}} {
		for _, isLost := range []bool{false, true} {
			w := copiesWorld(86400, 0, isLost, gaps...)
			w.Server.Life = lastLife
			r := checkWorld(t, "widest", w)
			if want := firstFit(86400, 0, isLost, gaps...); !slices.Equal(takenAt(r), want) {
				t.Errorf("gaps %v: taken at %v, not at %v", gaps, takenAt(r), want)
			}
		}
	}
}

// Up to the end of the ticket's life a copy is resumed, and never opens; behind it not even that.
func TestPromise31WorldCopiesAreResumed(t *testing.T) {
	t.Parallel()
	r := checkWorld(t, "resumed", shopWorld(flushed(0, ""), flushed(5, "early"), copyOf(1, 10), copyOf(1, 11), copyOf(1, 474), copyOf(1, 1)))
	for i, want := range []bool{false, true, true, true, true, false} {
		if got := r.Channels[i].Server; got.Resumed != want || got.EarlyTaken != (i == 1) {
			t.Errorf("connection %d at %d: resumed %v, taken %v", i, got.Now, got.Resumed, got.EarlyTaken)
		}
	}
}

// The same Hello may come from the client itself: the same seed at the same time, and the same ticket, as no new one came.
func TestPromise31WorldSameHello(t *testing.T) {
	t.Parallel()
	for _, early := range []string{"early", "other", "more of it than there was"} {
		w := shopWorld(flushed(0, ""), visit(1, "early", deliverAllStep(serverEnd)), flushed(0, early), copyOf(1, 1), copyOf(2, 1))
		w.Connections[2].Seed = w.Connections[1].Seed
		r := checkWorld(t, "the same Hello", w)
		if helloOf(r.Channels[1]) != helloOf(r.Channels[2]) || !slices.Equal(takenAt(r), []int{1}) {
			t.Errorf("early data %q: taken at %v", early, takenAt(r))
		}
		// It is resumed nevertheless, and goes on without them.
		if again := r.Channels[2]; !again.Client.Resumed || impl.Agreement(again) != impl.AgreeBoth || len(again.Server.Read) != 0 {
			t.Errorf("early data %q: %s", early, channelInShort(again))
		}
	}
}

// Two Hellos with one ticket are two: each is taken once, and no copy of either.
func TestPromise31WorldTwoHellos(t *testing.T) {
	t.Parallel()
	w := shopWorld(flushed(0, ""), visit(1, "one", deliverAllStep(serverEnd)), visit(0, "two", deliverAllStep(serverEnd)), copyOf(1, 1), copyOf(2, 1), copyOf(1, 8), copyOf(2, 0))
	r := checkWorld(t, "two", w)
	if !bytes.Equal(ticketOfHello(t, r.Channels[1]), ticketOfHello(t, r.Channels[2])) || !slices.Equal(takenAt(r), []int{1, 2}) {
		t.Errorf("two: taken at %v", takenAt(r))
	}
	w = shopWorld(flushed(0, ""), visit(1, "one", lost()), visit(0, "two", lost()), copyOf(2, 1), copyOf(1, 1), copyOf(1, 1), copyOf(2, 1))
	r = checkWorld(t, "two that are lost", w)
	if !slices.Equal(takenAt(r), []int{3, 4}) || string(r.Channels[3].Server.Read) != "two" || string(r.Channels[4].Server.Read) != "one" {
		t.Errorf("two that are lost: taken at %v", takenAt(r))
	}
}

// A network may bring what an earlier client sent in the place of what this one sends: that is a copy as well.
func TestPromise31WorldForgedCopies(t *testing.T) {
	t.Parallel()
	for _, isLost := range []bool{false, true} {
		w := copiesWorld(10, 0, isLost)
		sent := checkWorld(t, "without copies", w).Channels[1].Client.Sent
		forged := []impl.Step{lost(), forgeStep(serverEnd, sent...), flushStep()}
		for _, c := range []impl.Connection{visit(1, "other", forged...), copyOf(1, 1), visit(1, "", forged...), visit(9, "", forged...)} {
			w.Connections = append(w.Connections, c)
		}
		w = worldOf(w.Client, w.Server, w.Connections...)
		r := checkWorldTold(t, fmt.Sprint("forged, lost ", isLost), w)
		want := []int{1}
		if isLost {
			want = []int{2}
		}
		if !slices.Equal(takenAt(r), want) || string(r.Channels[want[0]].Server.Read) != "early" {
			t.Errorf("lost %v: taken at %v, not at %v", isLost, takenAt(r), want)
		}
	}
}

// A window without room takes nothing until a mark comes to its end; then one copy is taken.
func TestPromise31WorldFullWindow(t *testing.T) {
	t.Parallel()
	for until, want := range map[int64][]int{5003: {2}, 5004: {3}, 5005: {4}, 6000: nil} {
		w := copiesWorld(10, 0, false, 1, 1, 1, 1, 1)
		w.Server.Window = windowOf(10, sameUntils(64, until)...)
		if got := takenAt(checkWorld(t, "full", w)); !slices.Equal(got, want) {
			t.Errorf("marks until %d: taken at %v, not at %v", until, got, want)
		}
	}
}

// At the last time a clock stands still, and no mark comes to its end any more.
func TestPromise31WorldLastTime(t *testing.T) {
	t.Parallel()
	for _, before := range []int64{0, 1, 5, 9} {
		state := shopState()
		state.Made = lastTime - 20
		client, server := backClient(), shopServer()
		client.Saved, client.Now, server.Now = savedOf(state), lastTime-before, lastTime-before
		w := worldOf(client, server, visit(3, "early", deliverAllStep(serverEnd)), copyOf(0, 5), copyOf(0, 21), copyOf(0, lastTime), visit(0, "early", deliverAllStep(serverEnd)), copyOf(4, 100))
		r := checkWorld(t, "the last time", w)
		if !slices.Equal(takenAt(r), []int{0, 4}) || r.Channels[5].Server.Now != lastTime || len(r.Window.Marks) != 2 {
			t.Errorf("%d seconds before the end: taken at %v, the window is %s", before, takenAt(r), windowInShort(r.Window))
		}
	}
}

// The window that is left in the end keeps the promise in another world that begins with it.
func TestPromise31WorldAfterAWorld(t *testing.T) {
	t.Parallel()
	w := copiesWorld(10, 0, false, 1, 2)
	first := checkWorld(t, "the first world", w)
	later := worldOf(w.Client, w.Server, w.Connections...)
	later.Server.Window = first.Window
	if got := takenAt(checkWorld(t, "the same once more", later)); len(got) != 0 {
		t.Errorf("taken at %v", got)
	}
}

// Any worlds of copies, with bytes that are lost, changed and forged: not once are they taken twice.
func TestPromise31WorldRandom(t *testing.T) {
	t.Parallel()
	r := rand.New(rand.NewSource(591))
	seen := map[string]int{}
	for range 150 {
		w := randomWorld(r)
		report := checkWorld(t, "random", w)
		for i, c := range report.Channels {
			if toldIsCopy(w.Connections[i]) {
				seen[fmt.Sprint("copy, resumed ", c.Server.Resumed, ", taken ", c.Server.EarlyTaken)]++
			} else {
				seen[fmt.Sprint("visit, resumed ", c.Server.Resumed, ", taken ", c.Server.EarlyTaken)]++
			}
		}
	}
	if len(seen) != 6 {
		t.Errorf("there were %v", seen)
	}
}

// wildWorld has a network that means no good, and brings what it has heard in the connections ahead.
func wildWorld(r *rand.Rand, bad int) impl.World {
	n := &toldWorld{w: shopWorld()}
	others := toldChannel(strangerClient(), strangerServer(), flights()[7].ahead)
	for range 2 + r.Intn(6) {
		c := impl.Connection{Gap: r.Int63n(20), Seed: seedNumber(r.Intn(4)), Copied: notCopied}
		place := len(n.reports)
		if copied := r.Intn(place + 1); copied < place && r.Intn(2) == 0 && !toldIsCopy(n.w.Connections[copied]) {
			c.Copied = int64(copied)
		} else {
			c.Early = []byte([]string{"", "early", "early"}[r.Intn(3)])
		}
		n.w.Connections = append(n.w.Connections, c)
		if !toldIsCopy(c) {
			steps := wildScript(r, pair{"wild", n.clientOf(place), n.serverOf(place)}, others, bad)
			n.w.Connections[place].Steps = steps[:min(len(steps), 60)]
		}
		n.reports = append(n.reports, n.connect(place))
		if !toldIsCopy(c) && len(n.reports[place].Server.Sent) > 0 {
			others = n.reports[place]
		}
	}
	return n.w
}

// Of a forged Hello nobody can tell by the connection whose it is; the mark that it has made can.
func TestPromise31WorldWild(t *testing.T) {
	t.Parallel()
	r := rand.New(rand.NewSource(596))
	seen := 0
	for i := range 60 {
		report := checkWorldTold(t, "wild", wildWorld(r, []int{2, 6, 20, 60}[i%4]))
		taken := map[string]int{}
		for _, at := range takenAt(report) {
			marks := report.Channels[at].Server.Window.Marks
			taken[string(marks[len(marks)-1].Id)]++
			seen++
		}
		for id, count := range taken {
			if count > 1 {
				t.Errorf("what has the mark %x was taken %d times: %s", id, count, worldInShort(report))
			}
		}
	}
	if seen == 0 {
		t.Error("no early data were taken")
	}
}

// randomWorld has up to MaxConnections connections, more than half of which are copies.
func randomWorld(r *rand.Rand) impl.World {
	list := []impl.Connection{shifted(r.Int63n(40) - 20)}
	for range 1 + r.Intn(7) {
		gap := []int64{0, 1, 5, r.Int63n(25), r.Int63n(300)}[r.Intn(5)]
		if place := r.Int63n(int64(len(list))); r.Intn(3) > 0 && len(list) > 1 && !toldIsCopy(list[place]) {
			list = append(list, copyOf(place, gap))
			continue
		}
		list = append(list, visit(gap, []string{"", "early", "more early words"}[r.Intn(3)], randomVisit(r)...))
	}
	w := shopWorld(list...)
	w.Server.Window = randomWindow(r, r.Intn(65), 5000)
	w.Server.Window.Width = []int64{0, 3, 10, 10, 100}[r.Intn(5)]
	w.Server.EarlyMost = []int64{0, 5, 4096, 4096, 4096}[r.Intn(5)]
	w.Server.Life = []int64{0, 100, 500, 500, lastLife}[r.Intn(5)]
	return w
}

// randomVisit is what becomes of a visit: most often it opens.
func randomVisit(r *rand.Rand) []impl.Step {
	switch r.Intn(8) {
	case 0:
		return []impl.Step{lost()}
	case 1:
		return []impl.Step{deliverAllStep(serverEnd)}
	case 2:
		return []impl.Step{flipStep(serverEnd, r.Int63n(600), byte(1+r.Intn(255))), flushStep()}
	case 3:
		return []impl.Step{deliverStep(serverEnd, r.Int63n(600)), forgeStep(r.Int63n(2), randomList(r, r.Intn(5))...), flushStep()}
	case 4:
		return append(delivering(r, 5), talking(r, 5)...)
	}
	return []impl.Step{flushStep(), timeStep(r.Int63n(2), r.Int63n(30)), writeStep(clientEnd, "words"), flushStep()}
}
