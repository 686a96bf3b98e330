package tests

import (
	"fmt"
	"math/rand"
	"slices"
	"strings"
	"testing"

	"loop.example/g00004/impl"
)

// Serve: from text to text.

// checkServed holds what is served of a world's text to all chapters done another way.
func checkServed(t *testing.T, what string, w impl.World) string {
	t.Helper()
	want := "bad\n"
	text := toldFormatWorld(w)
	if text != "" && len(text) <= mostText {
		want = toldFormatReport(toldRunWorld(w))
	}
	got := impl.Serve(text)
	checkText(t, what, got, want)
	return got
}

func TestServeWorlds(t *testing.T) {
	t.Parallel()
	for what, w := range memoryWorlds() {
		got := checkServed(t, what, w)
		if (got == "bad\n") != (impl.WorldFault(w) != 0) || strings.Contains(got, "fault") {
			t.Errorf("%s: served %q", what, got[:min(len(got), 300)])
		}
	}
	checkServed(t, "full", fullWorld())
	checkServed(t, "bare", bareWorld())
	checkServed(t, "much", shopWorld(flushed(0, ""), flushed(1, "", impl.Step{Kind: impl.StWrite, End: clientEnd, Data: make([]byte, 200000)}, flushStep()), copyOf(1, 1)))
}

// A world by hand: a handshake, a visit that comes back with early data, and a copy of that.
func TestServeAVisitThatComesBack(t *testing.T) {
	t.Parallel()
	text := impl.FormatWorld(shopWorld(flushed(0, ""), flushed(5, "early", writeStep(serverEnd, "hi"), flushStep()), copyOf(1, 2)))
	got := linesIn(impl.Serve(text))
	if words := firstWords(strings.Join(got, "")); words != "connection client server way connection client server way connection client server way saved window mark" {
		t.Fatalf("the lines are %s", words)
	}
	for place, begins := range map[int]string{0: "connection 0\n", 1: "client 1 -1 -1 5000 0 0 0 - ", 2: "server 1 -1 -1 5000 0 0 0 - ", 3: "way - -\n", 4: "connection 1\n", 5: "client 1 -1 -1 5005 1 1 0 - ", 6: "server 1 -1 -1 5005 1 1 5 - ",
		7: "way - -\n", 8: "connection 2\n", 9: "client 0 0 0 0 0 0 0 - - - -\n", 10: "server 0 -1 -1 5007 1 0 0 - ", 11: "way - ", 12: "saved ", 13: "window 10\n", 14: "mark "} {
		if !strings.HasPrefix(got[place], begins) {
			t.Errorf("line %d is %q, not %q ..", place, got[place], begins)
		}
	}
	for place, ends := range map[int]string{5: " 6869\n", 6: " 6561726c79\n", 14: " 5025\n"} {
		if !strings.HasSuffix(got[place], ends) {
			t.Errorf("line %d is %q, not .. %q", place, got[place], ends)
		}
	}
	if host := strings.Fields(got[12])[7]; host != fmt.Sprintf("%x", shopHost) {
		t.Errorf("the host of what is saved is %s", host)
	}
}

// What is bad is a text that is no world, and nothing else: a world in which all goes wrong is told.
func TestServeWhatGoesWrong(t *testing.T) {
	t.Parallel()
	broken := bareWorld(flushed(0, ""), visit(1, "e", forgeStep(clientEnd, 0), forgeStep(serverEnd, 0)), visit(1, "", lost()), copyOf(0, 1))
	got := checkServed(t, "all goes wrong", broken)
	if strings.Contains(got, "bad") || len(linesWith(got, "connection")) != 4 {
		t.Errorf("served %q", got)
	}
}

func TestServeBadTexts(t *testing.T) {
	t.Parallel()
	text := checkWorldText(t, "some", someWorld())
	for _, s := range []string{"", "\n", "bad\n", "bad", text[:len(text)-1], text + "\n", " " + text, text + " ", text + text, text + "\x00", "\ufeff" + text, strings.ToUpper(text), strings.ReplaceAll(text, "\n", "\r\n"),
		text + "dance client 0 0 -\n", text + "flush server 0 0 -\n", text + "flush client 00 0 -\n", text + "flush client 0 0\n", text + "cert -\n", impl.Serve(text), toldWorldText(sizedWorld(t, mostText+1))} {
		if got := impl.Serve(s); got != "bad\n" {
			t.Errorf("of %q: served %q", s[:min(len(s), 200)], got[:min(len(got), 200)])
		}
	}
	checkServed(t, "as long as it may be", sizedWorld(t, mostText))
}

// Each text, of a world or nearly of one: bad exactly if it is none, else what the world's report says.
func TestPromise34Served(t *testing.T) {
	t.Parallel()
	r := rand.New(rand.NewSource(607))
	form := worldForm()
	var counts [2]int
	check := func(what string, text string) {
		want, place := "bad\n", 0
		if told := toldParseWorld(form, text); told.Good {
			want, place = toldFormatReport(toldRunWorld(told.World)), 1
		}
		counts[place]++
		checkText(t, what, impl.Serve(text), want)
	}
	for range 6 {
		for _, w := range []impl.World{randomWorld(r), anyWorld(r), someWorld(), fullWorld()} {
			text := impl.FormatWorld(w)
			check("a world", text)
			for range 8 {
				check("meddled with", meddledText(r, text))
			}
		}
	}
	if slices.Min(counts[:]) < 20 {
		t.Errorf("%d texts were none, and %d were worlds", counts[0], counts[1])
	}
}
