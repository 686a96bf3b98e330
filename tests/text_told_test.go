package tests

import (
	"bytes"
	"encoding/hex"
	"fmt"
	"reflect"
	"regexp"
	"slices"
	"strconv"
	"strings"
	"testing"

	"loop.example/g00004/impl"
)

// Chapter 20 done another way: lines are told by patterns of the library; a text is held to one expression for the whole of
// it, and only then are its words taken.

const mostText = 1048576

func toldHex(b []byte) string {
	if len(b) == 0 {
		return "-"
	}
	return fmt.Sprintf("%x", b)
}

func toldUnhex(s string) impl.HexResult {
	if s == "-" {
		return impl.HexResult{Good: true}
	}
	data, err := hex.DecodeString(s)
	if err != nil || s == "" || s != strings.ToLower(s) {
		return impl.HexResult{}
	}
	return impl.HexResult{Good: true, Data: data}
}

func toldProtocolsWord(protocols []string) string {
	var words []string
	for _, p := range protocols {
		words = append(words, fmt.Sprintf("%x", p))
	}
	if len(words) == 0 {
		return "-"
	}
	return strings.Join(words, ",")
}

// toldStepWords are the words of the kinds from 1 on.
func toldStepWords() []string {
	return strings.Split("write close update time deliver drop flip forge again flush", " ")
}

func toldSavedWords(s impl.Saved, host string) string {
	return fmt.Sprintf("saved %s %s %s %d %d %d %s %s\n", toldHex(s.Ticket), toldHex(s.Psk), toldHex(s.Random), s.Got, s.Life, s.Early, host, toldHex([]byte(s.Protocol)))
}

func toldEndsText(client impl.EndConfig, server impl.EndConfig) string {
	text := fmt.Sprintf("client %s %d %d %s %s\n", toldHex(client.Seed), client.Now, client.Pad, client.Host, toldProtocolsWord(client.Protocols))
	for _, root := range client.Roots {
		text += fmt.Sprintf("root %s %s\n", toldHex([]byte(root.Subject)), toldHex(root.Key))
	}
	if len(client.Saved.Ticket) > 0 {
		text += toldSavedWords(client.Saved, client.Saved.Host)
	}
	text += fmt.Sprintf("server %s %d %d %s %s %d %d %d %s\n", toldHex(server.Seed), server.Now, server.Pad, toldHex(server.KeySeed), toldHex(server.TicketKey),
		server.Life, server.EarlyMost, server.Window.Width, toldProtocolsWord(server.Protocols))
	for _, cert := range server.Certs {
		text += fmt.Sprintf("cert %x\n", toldCertForm(cert))
	}
	return text + toldMarksText(server.Window)
}

func toldMarksText(w impl.Window) string {
	text := ""
	for _, mark := range w.Marks {
		text += fmt.Sprintf("mark %s %d\n", toldHex(mark.Id), mark.Until)
	}
	return text
}

// toldWorldText is that of a world without fault.
func toldWorldText(w impl.World) string {
	var text strings.Builder
	text.WriteString(toldEndsText(w.Client, w.Server))
	for _, c := range w.Connections {
		fmt.Fprintf(&text, "connection %d %s %d %s\n", c.Gap, toldHex(c.Seed), c.Copied, toldHex(c.Early))
		for _, s := range c.Steps {
			end := []string{"client", "server"}[s.End]
			fmt.Fprintf(&text, "%s %s %d %d %s\n", toldStepWords()[s.Kind-1], end, s.Number, s.Count, toldHex(s.Data))
		}
	}
	return text.String()
}

func toldFormatWorld(w impl.World) string {
	if toldWorldFault(w) != 0 {
		return ""
	}
	return toldWorldText(w)
}

// worldForm is the form of all worlds, whatever their numbers and lists are: H stands for bytes, N for a number, W for a
// host and P for protocols.
func worldForm() *regexp.Regexp {
	form := `\Aclient H N N W P\n(root H H\n)*(saved H H H N N N W H\n)?server H N N H H N N N P\n(cert H\n)*(mark H N\n)*` +
		`(connection N H N H\n((` + strings.Join(toldStepWords(), "|") + `) (client|server) N N H\n)*)*\z`
	for letter, part := range map[string]string{"H": `(-|([0-9a-f]{2})+)`, "N": `(0|-?[1-9][0-9]*)`, "W": `[-.a-z0-9]+`, "P": `(-|([0-9a-f]{2})+(,([0-9a-f]{2})+)*)`} {
		form = strings.ReplaceAll(form, letter, part)
	}
	return regexp.MustCompile(form)
}

// toldLines takes words that have the form already; what has no value makes it bad.
type toldLines struct {
	world impl.World
	words []string
	bad   bool
}

func (l *toldLines) number(place int) int64 {
	v, err := strconv.ParseInt(l.words[place], 10, 64)
	l.bad = l.bad || err != nil
	return v
}

func (l *toldLines) list(place int) []byte {
	return toldUnhex(l.words[place]).Data
}

func (l *toldLines) protocols(place int) []string {
	var all []string
	for _, word := range strings.Split(l.words[place], ",") {
		if word != "-" {
			all = append(all, string(toldUnhex(word).Data))
		}
	}
	return all
}

func (l *toldLines) takeEnd() {
	w := &l.world
	switch l.words[0] {
	case "client":
		w.Client = impl.EndConfig{Seed: l.list(1), Now: l.number(2), Pad: l.number(3), Host: l.words[4], Protocols: l.protocols(5)}
	case "root":
		w.Client.Roots = append(w.Client.Roots, impl.Root{Subject: string(l.list(1)), Key: l.list(2)})
	case "saved":
		w.Client.Saved = impl.Saved{Ticket: l.list(1), Psk: l.list(2), Random: l.list(3), Got: l.number(4), Life: l.number(5), Early: l.number(6), Host: l.words[7], Protocol: string(l.list(8))}
	case "server":
		w.Server = impl.EndConfig{Server: true, Seed: l.list(1), Now: l.number(2), Pad: l.number(3), KeySeed: l.list(4), TicketKey: l.list(5), Life: l.number(6), EarlyMost: l.number(7),
			Window: impl.Window{Width: l.number(8)}, Protocols: l.protocols(9)}
	case "cert":
		cert := toldDecode(l.list(1))
		l.bad = l.bad || !cert.Good
		w.Server.Certs = append(w.Server.Certs, cert.Cert)
	case "mark":
		w.Server.Window.Marks = append(w.Server.Window.Marks, impl.Mark{Id: l.list(1), Until: l.number(2)})
	}
}

func (l *toldLines) takeConnection() {
	if l.words[0] == "connection" {
		l.world.Connections = append(l.world.Connections, impl.Connection{Gap: l.number(1), Seed: l.list(2), Copied: l.number(3), Early: l.list(4)})
		return
	}
	last := &l.world.Connections[len(l.world.Connections)-1]
	kind, end := slices.Index(toldStepWords(), l.words[0])+1, slices.Index([]string{"client", "server"}, l.words[1])
	last.Steps = append(last.Steps, impl.Step{Kind: int64(kind), End: int64(end), Number: l.number(2), Count: l.number(3), Data: l.list(4)})
}

func toldParseWorld(form *regexp.Regexp, text string) impl.WorldResult {
	if len(text) > mostText || !form.MatchString(text) {
		return impl.WorldResult{}
	}
	l := &toldLines{}
	ofEnds := []string{"client", "root", "saved", "server", "cert", "mark"}
	for line := range strings.Lines(text) {
		l.words = strings.Fields(line)
		if slices.Contains(ofEnds, l.words[0]) {
			l.takeEnd()
		} else {
			l.takeConnection()
		}
	}
	if l.bad || toldWorldFault(l.world) != 0 {
		return impl.WorldResult{}
	}
	return impl.WorldResult{Good: true, World: l.world}
}

func toldEndText(word string, r impl.EndReport) string {
	flag := map[bool]int{true: 1}
	return fmt.Sprintf("%s %d %d %d %d %d %d %d %s %s %s %s\n", word, r.Phase, r.Alert, r.PeerAlert, r.Now, flag[r.Resumed], flag[r.EarlyTaken], r.EarlyRead,
		toldHex([]byte(r.Protocol)), toldHex(r.Exporter), toldHex(r.Transcript), toldHex(r.Read))
}

func toldFormatReport(r impl.WorldReport) string {
	if r.Fault != 0 {
		return fmt.Sprintf("fault %d\n", r.Fault)
	}
	text := ""
	for i, c := range r.Channels {
		text += fmt.Sprintf("connection %d\n", i) + toldEndText("client", c.Client) + toldEndText("server", c.Server) + fmt.Sprintf("way %s %s\n", toldHex(c.ToServer), toldHex(c.ToClient))
	}
	saved := "saved -\n"
	if len(r.Saved.Ticket) > 0 {
		saved = toldSavedWords(r.Saved, toldHex([]byte(r.Saved.Host)))
	}
	return text + saved + fmt.Sprintf("window %d\n", r.Window.Width) + toldMarksText(r.Window)
}

func sameConfig(a impl.EndConfig, b impl.EndConfig) bool {
	numbers := func(c impl.EndConfig) []int64 { return []int64{c.Now, c.Pad, c.Life, c.EarlyMost} }
	lists := func(c impl.EndConfig) [][]byte {
		return [][]byte{c.Seed, c.Early, c.KeySeed, c.TicketKey, []byte(c.Host)}
	}
	return a.Server == b.Server && slices.Equal(numbers(a), numbers(b)) && sameLists(lists(a), lists(b)) && sameTexts(a.Protocols, b.Protocols) &&
		slices.EqualFunc(a.Roots, b.Roots, sameRoot) && sameSaved(a.Saved, b.Saved) && slices.EqualFunc(a.Certs, b.Certs, sameCert) && sameWindow(a.Window, b.Window)
}

func sameWorld(a impl.World, b impl.World) bool {
	return sameConfig(a.Client, b.Client) && sameConfig(a.Server, b.Server) && slices.EqualFunc(a.Connections, b.Connections, sameConnection)
}

// differing shows where two texts go apart.
func differing(got string, want string) string {
	at := 0
	for at < min(len(got), len(want)) && got[at] == want[at] {
		at++
	}
	around := func(text string) string { return text[max(at-60, 0):min(at+60, len(text))] }
	return fmt.Sprintf("%d and %d bytes, which differ at %d:\ngot  .. %q\nwant .. %q", len(got), len(want), at, around(got), around(want))
}

func checkText(t *testing.T, what string, got string, want string) {
	t.Helper()
	if got != want {
		t.Errorf("%s: %s", what, differing(got, want))
	}
}

// checkWorldText holds the text of a world to the chapter done another way, and what is read of it to the world. It answers the
// text.
func checkWorldText(t *testing.T, what string, w impl.World) string {
	t.Helper()
	text := impl.FormatWorld(w)
	checkText(t, what, text, toldFormatWorld(w))
	if text == "" || len(text) > mostText {
		checkNoWorld(t, what, text)
		return text
	}
	read := impl.ParseWorld(text)
	if !read.Good || !sameWorld(read.World, w) {
		t.Errorf("%s: good %v, read %s, of %q", what, read.Good, configInShort(read.World.Client), text[:min(len(text), 300)])
	}
	checkText(t, what+", told again", impl.FormatWorld(read.World), text)
	return text
}

// checkNoWorld asks for what is answered to a text that is no world.
func checkNoWorld(t *testing.T, what string, text string) {
	t.Helper()
	if got := impl.ParseWorld(text); !reflect.DeepEqual(got, impl.WorldResult{}) {
		t.Errorf("%s: good %v, %d connections, of %q", what, got.Good, len(got.World.Connections), text[:min(len(text), 300)])
	}
	if got := impl.Serve(text); got != "bad\n" {
		t.Errorf("%s: served %q", what, got[:min(len(got), 300)])
	}
}

// checkRead holds what is read of any text to the chapter done another way. It tells whether the text is a world.
func checkRead(t *testing.T, form *regexp.Regexp, what string, text string) bool {
	t.Helper()
	want := toldParseWorld(form, text)
	got := impl.ParseWorld(text)
	if got.Good != want.Good || !sameWorld(got.World, want.World) {
		t.Errorf("%s: good %v, want %v, of %q", what, got.Good, want.Good, text[:min(len(text), 3000)])
		return want.Good
	}
	if want.Good {
		checkText(t, what+", told again", impl.FormatWorld(got.World), text)
	} else {
		checkNoWorld(t, what, text)
	}
	return want.Good
}

// listsOfConfig are all lists of bytes of a configuration.
func listsOfConfig(c impl.EndConfig) [][]byte {
	lists := append([][]byte{c.Seed, c.Saved.Ticket, c.Saved.Psk, c.Saved.Random, c.Early, c.KeySeed, c.TicketKey}, idsOf(c.Window)...)
	for _, root := range c.Roots {
		lists = append(lists, root.Key)
	}
	for _, cert := range c.Certs {
		lists = append(lists, listsOfCert(cert)...)
	}
	return lists
}

// fullWorld has lines of every kind, and nothing in it is long.
func fullWorld() impl.World {
	client, server := withoutEarly(protocolClient()), protocolServer()
	client.Roots = []impl.Root{{Subject: "Root", Key: upwards(32)}, {}, {Subject: "\n \xff", Key: []byte{7}}}
	client.Saved.Ticket = bytes.Repeat([]byte{0xab}, 20)
	client.Pad, server.Pad = 3, 256
	server.Certs = []impl.Cert{plainLeaf()}
	server.Window = windowOf(10, 0, 6000)
	first := visit(0, "", allSteps()...)
	first.Early = []byte{1, 2}
	return worldOf(client, server, first, copyOf(0, 7), visit(1<<31, ""), copyOf(2, 0), visit(2, "\x00", flushStep()))
}

// allSteps has one step of each kind at each end.
func allSteps() []impl.Step {
	all := []impl.Step{flushStep()}
	for end := range int64(2) {
		all = append(all, writeStep(end, "hi"), closeStep(end), updateStep(end, 1), timeStep(end, 9), deliverStep(end, 65536), dropStep(end, 12), flipStep(end, 3, 0x80),
			forgeStep(end, 0, 255), againStep(end, 10, 20))
	}
	return all
}
