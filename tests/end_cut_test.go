package tests

import (
	"math/rand"
	"slices"
	"testing"

	"loop.example/g00004/impl"
)

// The bytes that come may be cut into events in any way: all of the report but the answers is the same.

// merged has the bytes that come without another event between them in one event.
func merged(events []impl.Event) []impl.Event {
	var all []impl.Event
	for _, event := range events {
		if last := len(all) - 1; last >= 0 && event.Kind == impl.EvBytes && all[last].Kind == impl.EvBytes {
			all[last].Data = slices.Concat(all[last].Data, event.Data)
			continue
		}
		all = append(all, event)
	}
	return all
}

// recut has the bytes of each event cut by a rule that answers the places.
func recut(events []impl.Event, places func(data []byte) []int) []impl.Event {
	var all []impl.Event
	for _, event := range merged(events) {
		if event.Kind != impl.EvBytes {
			all = append(all, event)
			continue
		}
		from := 0
		for _, to := range append(places(event.Data), len(event.Data)) {
			all = append(all, impl.Event{Kind: impl.EvBytes, Data: event.Data[from:to]})
			from = to
		}
	}
	return all
}

type script struct {
	what   string
	config impl.EndConfig
	events []impl.Event
}

func scriptOf(what string, p *play) script {
	return script{what, p.config(), p.events}
}

// checkCut holds the report of a cut against that of the whole, and the answers of bytes to one that never refuses but at an
// end that has failed.
func (s script) checkCut(t *testing.T, how string, want impl.EndReport, events []impl.Event) {
	t.Helper()
	if len(events) > impl.MaxEvents {
		t.Fatalf("%s, %s: %d events", s.what, how, len(events))
	}
	got := impl.RunEnd(s.config, events)
	if !sameBesides(got, want) {
		t.Errorf("%s, %s:\ngot  %s\nwant %s", s.what, how, reportInShort(got), reportInShort(want))
	}
	for i, event := range events {
		if event.Kind == impl.EvBytes && got.Answers[i] == 1 && got.Phase != impl.PhaseFailed {
			t.Errorf("%s, %s: bytes were refused", s.what, how)
		}
	}
}

func (s script) whole(t *testing.T) impl.EndReport {
	t.Helper()
	want := checkRun(t, s.what, s.config, merged(s.events))
	s.checkCut(t, "as it came", want, s.events)
	return want
}

// shortScripts are cut at every place.
func shortScripts() []script {
	server := playServer(shopClient(), shopServer()).open()
	server.do(writing("mine")).sends(23, []byte("theirs"))
	server.says(impl.Message{Kind: impl.KindUpdate, Early: 1}).sends(23, []byte("more"))
	server.sends(21, []byte{0}).bytes([]byte{9, 9, 9}).do(closing())
	early := playServer(earlyClient(), shopServer()).deliver().back().deliver()
	client := playClient(backClient(), shopServer()).back().deliver()
	client.says(ticketMessage(9, 9, upwards(40))).says(impl.Message{Kind: impl.KindUpdate}).sends(23, []byte("words"))
	failing := playClient(earlyClient(), shopServer()).back().records(2)
	failing.bytes(strange(30)).bytes([]byte{21, 0, 1, 7})
	passing := passingPlay().bytes(strange(40)).bytes(strange(3))
	passing.other.finish()
	passing.deliver()
	return []script{
		scriptOf("a server", server), scriptOf("a server with early data", early), scriptOf("a client that comes back", client),
		scriptOf("a client that fails", failing), scriptOf("a server that passes over", passing),
	}
}

func TestCutAtEveryPlace(t *testing.T) {
	t.Parallel()
	for _, s := range shortScripts() {
		want := s.whole(t)
		longest := 0
		for _, event := range merged(s.events) {
			if event.Kind == impl.EvBytes {
				longest = max(longest, len(event.Data))
			}
		}
		for at := range longest + 1 {
			s.checkCut(t, "at one place", want, recut(s.events, func(data []byte) []int {
				if at > len(data) {
					return nil
				}
				return []int{at}
			}))
		}
	}
}

// Every byte comes alone, as far as there may be so many events.
func TestCutIntoBytes(t *testing.T) {
	t.Parallel()
	for _, s := range shortScripts() {
		want := s.whole(t)
		for start := 0; start < 1200; start += 350 {
			s.checkCut(t, "bytes alone", want, recut(s.events, func(data []byte) []int {
				var places []int
				for at := start; at < min(start+150, len(data)); at++ {
					places = append(places, at)
				}
				return places
			}))
		}
	}
}

func TestCutAFullHandshake(t *testing.T) {
	t.Parallel()
	p := playClient(shopClient(), shopServer()).back().deliver().back().deliver().sends(23, []byte("words")).sends(21, []byte{0})
	s := scriptOf("a client", p)
	want := s.whole(t)
	size := len(merged(s.events)[0].Data)
	places := []int{}
	at := 0
	for _, record := range impl.CutRecords(merged(s.events)[0].Data).Records {
		for near := -2; near <= 4; near++ {
			places = append(places, max(0, at+near))
		}
		at += 3 + len(record.Body)
	}
	for far := 0; far < size; far += 29 {
		places = append(places, far)
	}
	for _, place := range places {
		s.checkCut(t, "at a place", want, recut(s.events, func(data []byte) []int { return []int{min(place, len(data))} }))
	}
	for _, step := range []int{3, 4, 19, 64, 500} {
		s.checkCut(t, "evenly", want, recut(s.events, func(data []byte) []int {
			var places []int
			for at := step; at < len(data); at += step {
				places = append(places, at)
			}
			return places
		}))
	}
}

// What leads to each alert, cut in a few ways.
func TestCutWhatFails(t *testing.T) {
	t.Parallel()
	r := rand.New(rand.NewSource(396))
	for _, s := range allStages() {
		for _, bad := range [][]byte{{9}, {22, 0, 0}, {21, 0, 2, 1, 2}, {21, 0, 1, 42}, strange(5), strange(50), plainRecord([]byte{99}), plainRecord([]byte{5, 0, 0, 0, 5})} {
			p := s.build().bytes(bad).bytes(upwards(30)).bytes(strange(40))
			one := scriptOf(s.what, p)
			want := one.whole(t)
			for range 3 {
				one.checkCut(t, "at random", want, recut(one.events, func(data []byte) []int { return randomPlaces(r, len(data), 8) }))
			}
			one.checkCut(t, "the last bytes alone", want, recut(one.events, func(data []byte) []int {
				var places []int
				for at := max(0, len(data)-80); at < len(data); at++ {
					places = append(places, at)
				}
				return places
			}))
		}
	}
}

func randomPlaces(r *rand.Rand, size int, most int) []int {
	var places []int
	for range r.Intn(most) {
		places = append(places, r.Intn(size+1))
	}
	slices.Sort(places)
	return places
}

// Many bytes, up to as many as there may be, cut into as many events as there may be.
func TestCutManyBytes(t *testing.T) {
	t.Parallel()
	r := rand.New(rand.NewSource(397))
	p := playServer(shopClient(), shopServer()).open()
	p.other.c.Pad = 256
	for range 40 {
		p.other.take(impl.Event{Kind: impl.EvWrite, Data: randomList(r, 1+r.Intn(6000))})
		p.other.take(updating(int64(r.Intn(2))))
	}
	p.deliver()
	one := scriptOf("many bytes", p)
	want := one.whole(t)
	if len(want.Read) < 60000 {
		t.Fatalf("%d bytes were read", len(want.Read))
	}
	for _, most := range []int{2, 20, 390} {
		one.checkCut(t, "at random", want, recut(one.events, func(data []byte) []int { return randomPlaces(r, len(data), most) }))
	}
	one.checkCut(t, "as many events as there may be", want, recut(one.events, func(data []byte) []int {
		var places []int
		for i := range 399 {
			places = append(places, i*len(data)/399)
		}
		return places
	}))
}

// Events without bytes between the pieces change nothing but the answers.
func TestEmptyPieces(t *testing.T) {
	t.Parallel()
	for _, s := range shortScripts() {
		want := s.whole(t)
		s.checkCut(t, "with empty pieces", want, recut(s.events, func(data []byte) []int { return []int{0, 0, len(data) / 2, len(data) / 2, len(data)} }))
	}
}

// An end that has failed sends and reads nothing more, and has an alert of its own or of the other one.
func TestFailedEndsSayNothing(t *testing.T) {
	t.Parallel()
	r := rand.New(rand.NewSource(398))
	for _, s := range allStages() {
		for _, bad := range [][]byte{{9}, {22, 0, 0}, {21, 0, 1, 42}, strange(2000)} {
			p := s.build().bytes(bad)
			if p.subject.r.Phase != impl.PhaseFailed {
				continue
			}
			before := impl.RunEnd(p.config(), p.events)
			if before.Phase != impl.PhaseFailed || before.Alert <= 0 && before.PeerAlert < 0 {
				t.Errorf("%s: %s", s.what, reportInShort(before))
			}
			for range 4 {
				p.bytes(randomList(r, r.Intn(50))).do(writing("x")).do(closing()).do(updating(0)).do(waiting(1))
			}
			p.sends(23, []byte("more"))
			got := impl.RunEnd(p.config(), p.events)
			if !sameBesides(got, before) || got.Answers[len(got.Answers)-1] != 1 {
				t.Errorf("%s: behind failing\n%s\nand not\n%s", s.what, reportInShort(got), reportInShort(before))
			}
		}
	}
}
