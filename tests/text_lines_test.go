package tests

import (
	"bytes"
	"encoding/hex"
	"fmt"
	"math/rand"
	"slices"
	"strings"
	"testing"

	"loop.example/g00004/impl"
)

// FormatWorld: each line of the chapter's table by itself, and the empty text of a world with a fault.

func TestTextConstants(t *testing.T) {
	if impl.MaxText != mostText {
		t.Errorf("MaxText is %d", impl.MaxText)
	}
}

// linesWith are the lines of a text that begin with a word, as they stand.
func linesWith(text string, word string) []string {
	var all []string
	for line := range strings.Lines(text) {
		if strings.HasPrefix(line, word+" ") {
			all = append(all, line)
		}
	}
	return all
}

// firstWords are the words that the lines of a text begin with.
func firstWords(text string) string {
	var all []string
	for line := range strings.Lines(text) {
		word, _, _ := strings.Cut(line, " ")
		all = append(all, word)
	}
	return strings.Join(all, " ")
}

// checkLines asks for all lines that begin with a word, in their order.
func checkLines(t *testing.T, what string, w impl.World, word string, want ...string) {
	t.Helper()
	text := checkWorldText(t, what, w)
	if got := linesWith(text, word); !slices.Equal(got, want) {
		t.Errorf("%s: got %q, want %q", what, got, want)
	}
}

const upwards32 = "000102030405060708090a0b0c0d0e0f101112131415161718191a1b1c1d1e1f"

// bareWorld has as little in it as there may be.
func bareWorld(list ...impl.Connection) impl.World {
	client := impl.EndConfig{Seed: upwards(32), Host: "a"}
	server := impl.EndConfig{Server: true, Seed: full(32), KeySeed: upwards(32), TicketKey: make([]byte, 32), Certs: []impl.Cert{plainLeaf()}}
	return worldOf(client, server, list...)
}

func TestTextOfLittle(t *testing.T) {
	t.Parallel()
	text := checkWorldText(t, "little", bareWorld())
	checkText(t, "little", text, "client "+upwards32+" 0 0 a -\nserver "+strings.Repeat("f", 64)+" 0 0 "+upwards32+" "+strings.Repeat("0", 64)+" 0 0 0 -\ncert "+
		hex.EncodeToString(impl.EncodeCert(plainLeaf()))+"\n")
}

func TestTextOfAll(t *testing.T) {
	t.Parallel()
	text := checkWorldText(t, "all", fullWorld())
	if got := firstWords(text); got != "client root root root saved server cert mark mark connection flush write close update time deliver drop flip forge again "+
		"write close update time deliver drop flip forge again connection connection connection connection flush" {
		t.Errorf("the lines are %s", got)
	}
	if strings.Contains(text, "  ") || strings.Contains(text, " \n") || strings.Contains(text, "\n\n") || strings.HasPrefix(text, "\n") || !strings.HasSuffix(text, "\n") {
		t.Errorf("blanks and line feeds: %q", text)
	}
}

func TestTextOfClients(t *testing.T) {
	t.Parallel()
	w := bareWorld()
	w.Client.Now, w.Client.Pad, w.Client.Host, w.Client.Seed = 5000, 7, "www.shop.example", full(32)
	checkLines(t, "another", w, "client", "client "+strings.Repeat("ff", 32)+" 5000 7 www.shop.example -\n")
	for _, now := range withinOf(0, lastTime) {
		w = bareWorld()
		w.Client.Now = now
		checkLines(t, "now", w, "client", fmt.Sprintf("client %s %d 0 a -\n", upwards32, now))
	}
	for _, pad := range []int64{0, 1, 9, 10, 99, 100, 255, 256} {
		w = bareWorld()
		w.Client.Pad = pad
		checkLines(t, "pad", w, "client", fmt.Sprintf("client %s 0 %d a -\n", upwards32, pad))
	}
	// Hosts are as they are, also those that look like something else.
	for _, host := range append(stateHosts(), "client", "server", "00", "61", "ff.0a", "0-0", "a--b", "123") {
		w = bareWorld()
		w.Client.Host = host
		checkLines(t, "host", w, "client", "client "+upwards32+" 0 0 "+host+" -\n")
	}
}

func TestTextOfProtocols(t *testing.T) {
	t.Parallel()
	long := strings.Repeat("p", 32)
	for want, protocols := range map[string][]string{
		"-":                                nil,
		"6832":                             {"h2"},
		"2d":                               {"-"},
		"2c":                               {","},
		"20":                               {" "},
		"0a":                               {"\n"},
		"00":                               {"\x00"},
		"ff,00ff":                          {"\xff", "\x00\xff"},
		"6832,61":                          {"h2", "a"},
		"61,6832":                          {"a", "h2"},
		"61,6161,616161":                   {"a", "aa", "aaa"},
		strings.Repeat("70", 32):           {long},
		"61,62,63,64,65,66,67,68":          strings.Split("abcdefgh", ""),
		strings.Repeat("70", 32) + ",2c2c": {long, ",,"},
	} {
		w := bareWorld()
		w.Client.Protocols = protocols
		checkLines(t, "client", w, "client", "client "+upwards32+" 0 0 a "+want+"\n")
		w.Client.Protocols, w.Server.Protocols = nil, protocols
		checkLines(t, "server", w, "server", "server "+strings.Repeat("f", 64)+" 0 0 "+upwards32+" "+strings.Repeat("0", 64)+" 0 0 0 "+want+"\n")
	}
	w := bareWorld()
	w.Client.Protocols, w.Server.Protocols = []string{}, []string{}
	checkText(t, "empty lists", checkWorldText(t, "empty lists", w), impl.FormatWorld(bareWorld()))
}

// A root's subject may be any text, and its key may have any length.
func TestTextOfRoots(t *testing.T) {
	t.Parallel()
	w := bareWorld()
	w.Client.Roots = []impl.Root{{Subject: "Root", Key: upwards(32)}, {}, {Subject: "-", Key: []byte{0}}, {Subject: "\n\x00 \xff", Key: upwards(33)}, {Key: upwards(3)}, {Subject: "é"}}
	checkLines(t, "roots", w, "root", "root 526f6f74 "+upwards32+"\n", "root - -\n", "root 2d 00\n", "root 0a0020ff "+upwards32+"20\n", "root - 000102\n", "root c3a9 -\n")
	for _, count := range []int{0, 1, 2, 15, 16} {
		w = bareWorld()
		w.Client.Roots = slices.Repeat([]impl.Root{{Subject: "R", Key: []byte{9}}}, count)
		checkLines(t, fmt.Sprint(count, " roots"), w, "root", slices.Repeat([]string{"root 52 09\n"}, count)...)
	}
	for _, size := range []int{1, 31, 64, 255, 256, 1000, 100000} {
		w = bareWorld()
		w.Client.Roots = []impl.Root{{Subject: strings.Repeat("s", size), Key: make([]byte, size)}}
		checkLines(t, fmt.Sprint("of ", size), w, "root", "root "+strings.Repeat("73", size)+" "+strings.Repeat("00", size)+"\n")
	}
}

func TestTextOfSaved(t *testing.T) {
	t.Parallel()
	w := bareWorld()
	checkLines(t, "none", w, "saved")
	w.Client.Saved = impl.Saved{Ticket: []byte{}, Psk: []byte{}, Random: []byte{}}
	checkLines(t, "empty lists", w, "saved")
	w.Client.Now = 9
	w.Client.Saved = impl.Saved{Ticket: []byte{1}, Psk: upwards(32), Random: full(32), Got: 4, Life: 5, Early: 6, Host: "b.c"}
	checkLines(t, "least", w, "saved", "saved 01 "+upwards32+" "+strings.Repeat("f", 64)+" 4 5 6 b.c -\n")
	w.Client.Now = lastTime
	w.Client.Saved = impl.Saved{Ticket: full(400), Psk: full(32), Random: upwards(32), Got: lastTime, Life: lastLife, Early: lastAge, Host: longName(128), Protocol: strings.Repeat("p", 32)}
	checkLines(t, "most", w, "saved", fmt.Sprintf("saved %s %s %s %d %d %d %s %s\n", strings.Repeat("f", 800), strings.Repeat("f", 64), upwards32, lastTime, lastLife, lastAge, longName(128), strings.Repeat("70", 32)))
	for _, protocol := range stateProtocols() {
		w.Client.Saved.Protocol = protocol
		checkWorldText(t, "protocol", w)
	}
	w.Client.Saved.Got, w.Client.Saved.Early, w.Client.Saved.Life, w.Client.Saved.Host, w.Client.Saved.Protocol = 0, 0, 1, "saved", " "
	checkLines(t, "numbers 0", w, "saved", "saved "+strings.Repeat("f", 800)+" "+strings.Repeat("f", 64)+" "+upwards32+" 0 1 0 saved 20\n")
}

func TestTextOfServers(t *testing.T) {
	t.Parallel()
	w := bareWorld()
	w.Server = impl.EndConfig{Server: true, Seed: upwards(32), Now: 1, Pad: 2, KeySeed: full(32), TicketKey: seedNumber(3), Life: 4, EarlyMost: 5, Window: impl.Window{Width: 6}, Protocols: []string{"h2"}, Certs: []impl.Cert{plainLeaf()}}
	checkLines(t, "each another", w, "server", "server "+upwards32+" 1 2 "+strings.Repeat("f", 64)+" 73656564"+strings.Repeat("03", 28)+" 4 5 6 6832\n")
	w.Server.Now, w.Server.Pad, w.Server.Life, w.Server.EarlyMost, w.Server.Window.Width = lastTime, 256, lastLife, lastAge, lastWidth
	checkLines(t, "most", w, "server", fmt.Sprintf("server %s %d 256 %s 73656564%s %d %d %d 6832\n", upwards32, lastTime, strings.Repeat("f", 64), strings.Repeat("03", 28), lastLife, lastAge, lastWidth))
}

func TestTextOfCerts(t *testing.T) {
	t.Parallel()
	for count := 1; count <= 4; count++ {
		w := bareWorld()
		w.Server.Certs = goodCase(count).chain
		var want []string
		for _, cert := range w.Server.Certs {
			want = append(want, "cert "+hex.EncodeToString(impl.EncodeCert(cert))+"\n")
		}
		checkLines(t, fmt.Sprint(count, " certificates"), w, "cert", want...)
	}
	for _, cert := range append(plainCerts(), certOfSize(t, 2000)) {
		w := bareWorld()
		w.Server.Certs = []impl.Cert{cert, plainLeaf(), cert}
		checkLines(t, certInShort(cert), w, "cert", "cert "+hex.EncodeToString(toldCertForm(cert))+"\n", "cert "+hex.EncodeToString(toldCertForm(plainLeaf()))+"\n", "cert "+hex.EncodeToString(toldCertForm(cert))+"\n")
	}
}

func TestTextOfMarks(t *testing.T) {
	t.Parallel()
	w := bareWorld()
	checkLines(t, "none", w, "mark")
	w.Server.Window.Marks = []impl.Mark{{Id: full(32), Until: 9}, {Id: upwards(32)}, {Id: make([]byte, 32), Until: lastMarkEnd}}
	checkLines(t, "three", w, "mark", "mark "+strings.Repeat("f", 64)+" 9\n", "mark "+upwards32+" 0\n", fmt.Sprintf("mark %s %d\n", strings.Repeat("0", 64), lastMarkEnd))
	w.Server.Window = windowOf(5, sameUntils(64, 77)...)
	if lines := linesWith(checkWorldText(t, "many", w), "mark"); len(lines) != 64 || lines[63] != "mark "+strings.Repeat("0", 62)+"3f 77\n" {
		t.Errorf("%d marks, the last is %q", len(lines), lines[len(lines)-1])
	}
}

func TestTextOfConnections(t *testing.T) {
	t.Parallel()
	first := impl.Connection{Gap: 3, Seed: upwards(32), Copied: -1, Early: []byte{1, 2}}
	second := impl.Connection{Gap: lastTime, Seed: full(32), Copied: -1}
	copied := impl.Connection{Gap: 0, Seed: upwards(32), Copied: 1}
	ones := strings.Repeat("f", 64)
	checkLines(t, "none", bareWorld(), "connection")
	checkLines(t, "one", bareWorld(second), "connection", fmt.Sprintf("connection %d %s -1 -\n", lastTime, ones))
	checkLines(t, "three", bareWorld(first, second, copied), "connection", "connection 3 "+upwards32+" -1 0102\n", fmt.Sprintf("connection %d %s -1 -\n", lastTime, ones), "connection 0 "+upwards32+" 1 -\n")
	copied.Copied = 0
	checkLines(t, "a copy of the first", bareWorld(first, copied), "connection", "connection 3 "+upwards32+" -1 0102\n", "connection 0 "+upwards32+" 0 -\n")
	first.Early = make([]byte, 4096)
	checkLines(t, "much early", bareWorld(first), "connection", "connection 3 "+upwards32+" -1 "+strings.Repeat("0", 8192)+"\n")
	copied.Copied = 6
	many := bareWorld(slices.Concat(slices.Repeat([]impl.Connection{second}, 7), []impl.Connection{copied})...)
	if lines := linesWith(checkWorldText(t, "many", many), "connection"); len(lines) != 8 || lines[7] != "connection 0 "+upwards32+" 6 -\n" {
		t.Errorf("%d connections, the last is %q", len(lines), lines[len(lines)-1])
	}
}

// Each connection has its own steps behind it.
func TestTextOfStepsBehindConnections(t *testing.T) {
	t.Parallel()
	w := bareWorld(visit(0, "", closeStep(0)), visit(0, ""), copyOf(1, 0), visit(0, "", flushStep(), closeStep(1)), visit(0, "", flushStep()))
	if got := firstWords(checkWorldText(t, "steps", w)); got != "client server cert connection close connection connection connection flush close connection flush" {
		t.Errorf("the lines are %s", got)
	}
}

// stepText is the line of a step that stands alone.
func stepText(t *testing.T, s impl.Step) string {
	t.Helper()
	text := checkWorldText(t, fmt.Sprint("the step ", s.Kind), bareWorld(visit(0, "", s)))
	lines := slices.Collect(strings.Lines(text))
	if len(lines) != 5 {
		t.Fatalf("the step %d: %q", s.Kind, text)
	}
	return lines[4]
}

func TestTextOfEachStep(t *testing.T) {
	t.Parallel()
	words := []string{"write", "close", "update", "time", "deliver", "drop", "flip", "forge", "again", "flush"}
	for i, kind := range allStepKinds() {
		for end, name := range []string{"client", "server"} {
			s := leastStep(kind)
			s.End = int64(end)
			data := "-"
			if kind == impl.StFlip {
				data = "00"
			}
			if kind == impl.StFlush && end == 1 {
				checkWorldText(t, "a flush at the server", bareWorld(visit(0, "", s)))
				continue
			}
			checkText(t, "step", stepText(t, s), fmt.Sprintf("%s %s 0 0 %s\n", words[i], name, data))
			s.Number, s.Count = mostNumber(kind), mostCount(kind)
			checkText(t, "step", stepText(t, s), fmt.Sprintf("%s %s %d %d %s\n", words[i], name, s.Number, s.Count, data))
		}
	}
	checkText(t, "write", stepText(t, writeStep(1, "hi")), "write server 0 0 6869\n")
	checkText(t, "update", stepText(t, updateStep(0, 1)), "update client 1 0 -\n")
	checkText(t, "time", stepText(t, timeStep(0, 9)), "time client 9 0 -\n")
	checkText(t, "deliver", stepText(t, deliverStep(1, 10)), "deliver server 0 10 -\n")
	checkText(t, "drop", stepText(t, dropStep(0, 100)), "drop client 0 100 -\n")
	checkText(t, "flip", stepText(t, flipStep(1, 65536, 255)), "flip server 65536 0 ff\n")
	checkText(t, "forge", stepText(t, forgeStep(0, 0, 10)), "forge client 0 0 000a\n")
	checkText(t, "again", stepText(t, againStep(1, 12, 34)), "again server 12 34 -\n")
}

// With any fault there is no text at all.
func TestTextOfFaults(t *testing.T) {
	t.Parallel()
	seen := map[int64]int{}
	check := func(what string, change func(w *impl.World)) {
		w := someWorld()
		change(&w)
		fault := toldWorldFault(w)
		seen[fault]++
		if text := checkWorldText(t, what, w); (text == "") != (fault != 0) {
			t.Errorf("%s: the fault %d and a text of %d bytes", what, fault, len(text))
		}
	}
	for _, one := range configChanges(t) {
		check(one.what+" of the client", func(w *impl.World) { one.change(&w.Client) })
		check(one.what+" of the server", func(w *impl.World) { one.change(&w.Server) })
	}
	for _, one := range append(gapAndSeedChanges(), earlyAndStepChanges()...) {
		check(one.what, func(w *impl.World) { one.change(&w.Connections[1]) })
		check(one.what+" of a copy", func(w *impl.World) { one.change(&w.Connections[2]) })
	}
	for _, number := range append(farNumbers(), -1, 0, 1, 2, 3) {
		check("a copied number", func(w *impl.World) { w.Connections[2].Copied = number })
	}
	check("too many", func(w *impl.World) { w.Connections = slices.Repeat(w.Connections[:1], 9) })
	check("too much", func(w *impl.World) {
		w.Connections[0].Steps = []impl.Step{{Kind: impl.StForge, Data: make([]byte, 200001)}}
	})
	check("nothing at all", func(w *impl.World) { *w = impl.World{} })
	for fault := range int64(8) {
		if seen[fault] == 0 {
			t.Errorf("no world had the fault %d: %v", fault, seen)
		}
	}
}

// As much as there may be of all that has a limit.
func TestTextOfMuch(t *testing.T) {
	t.Parallel()
	w := fullWorld()
	w.Server.Certs = slices.Repeat([]impl.Cert{certOfSize(t, 2000)}, 4)
	w.Server.Window = windowOf(lastWidth, sameUntils(64, lastMarkEnd)...)
	var list []impl.Connection
	for range 8 {
		c := visit(lastTime, string(bytes.Repeat([]byte{0xee}, 4096)), slices.Repeat([]impl.Step{timeStep(serverEnd, lastTime)}, 199)...)
		c.Steps = append(c.Steps, impl.Step{Kind: impl.StForge, Data: make([]byte, 25000)})
		list = append(list, c)
	}
	w = worldOf(w.Client, w.Server, list...)
	if text := checkWorldText(t, "much", w); len(text) < 400000 || len(text) > mostText {
		t.Errorf("the text has %d bytes", len(text))
	}
}

func TestTextOfRandomWorlds(t *testing.T) {
	t.Parallel()
	r := rand.New(rand.NewSource(603))
	for range 60 {
		checkWorldText(t, "random", randomWorld(r))
	}
	for what, w := range memoryWorlds() {
		checkWorldText(t, what, w)
	}
}
