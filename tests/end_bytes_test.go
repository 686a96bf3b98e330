package tests

import (
	"bytes"
	"slices"
	"testing"

	"loop.example/g00004/impl"
)

// Whole handshakes byte by byte, written down from the calls of the chapters below, one line behind the other.

func sealedMessage(secret []byte, number int64, form []byte) []byte {
	return impl.Protect(impl.TrafficKeys(secret), number, impl.RecordPlain, form, 0)
}

func sealedData(secret []byte, number int64, data string, pad int64) []byte {
	return impl.Protect(impl.TrafficKeys(secret), number, impl.RecordData, []byte(data), pad)
}

func hashOfAll(lists ...[]byte) []byte {
	return impl.Hash(slices.Concat(lists...))
}

func formOf(m impl.Message) []byte {
	return impl.EncodeMessage(m)
}

func plainRecord(form []byte) []byte {
	return impl.EncodeRecord(impl.Record{Kind: impl.RecordPlain, Body: form})
}

func seedOf(c impl.EndConfig, name string) []byte {
	return impl.Expand(c.Seed, []byte(name), 32)
}

func bytesEvent(lists ...[]byte) impl.Event {
	return impl.Event{Kind: impl.EvBytes, Data: slices.Concat(lists...)}
}

func TestBytesOfAFullHandshake(t *testing.T) {
	c, s := shopClient(), shopServer()
	c.Protocols, s.Protocols, c.Pad, s.Pad = []string{"x", "h2"}, []string{"h2"}, 5, 7
	hello := formOf(impl.Message{Kind: 1, Version: 1, Random: seedOf(c, "random"), Share: impl.LadderPublic(seedOf(c, "share")), Host: shopHost, Protocols: c.Protocols})
	answer := formOf(impl.Message{Kind: 2, Version: 1, Random: seedOf(s, "random"), Share: impl.LadderPublic(seedOf(s, "share"))})
	shared := impl.LadderShared(seedOf(c, "share"), impl.LadderPublic(seedOf(s, "share"))).Key
	hs := impl.HandshakeSecret(impl.EarlySecret(nil), shared)
	clientHs := impl.Derive(hs, "client hs", hashOfAll(hello, answer))
	serverHs := impl.Derive(hs, "server hs", hashOfAll(hello, answer))
	extras := formOf(impl.Message{Kind: 8, Protocols: []string{"h2"}})
	certs := formOf(impl.Message{Kind: 11, Certs: []impl.Blob{{Data: impl.EncodeCert(s.Certs[0])}, {Data: impl.EncodeCert(s.Certs[1])}}})
	signed := append([]byte("server proof"), hashOfAll(hello, answer, extras, certs)...)
	proof := formOf(impl.Message{Kind: 15, Proof: impl.Sign(s.KeySeed, signed)})
	first := formOf(impl.Message{Kind: 20, Proof: impl.FinishedMac(serverHs, hashOfAll(hello, answer, extras, certs, proof))})
	master := impl.MasterSecret(hs)
	half := hashOfAll(hello, answer, extras, certs, proof, first)
	clientData, serverData := impl.Derive(master, "client data", half), impl.Derive(master, "server data", half)
	second := formOf(impl.Message{Kind: 20, Proof: impl.FinishedMac(clientHs, half)})
	whole := hashOfAll(hello, answer, extras, certs, proof, first, second)
	psk := impl.TicketSecret(impl.Derive(master, "resume", whole), seedOf(s, "ticket"))
	state := impl.TicketState{Psk: psk, Random: seedOf(s, "ticket"), Made: 5003, Life: 500, Host: shopHost, Protocol: "h2", Early: 4096}
	ticket := impl.SealTicket(s.TicketKey, impl.Expand(s.Seed, []byte("nonce"), 12), state)
	given := formOf(impl.Message{Kind: 4, Age: 500, Early: 4096, Random: state.Random, Ticket: ticket})

	toServer := [][]byte{plainRecord(hello), sealedMessage(clientHs, 0, second), sealedData(clientData, 0, "question", 5)}
	toClient := [][]byte{plainRecord(answer), sealedMessage(serverHs, 0, extras), sealedMessage(serverHs, 1, certs), sealedMessage(serverHs, 2, proof),
		sealedMessage(serverHs, 3, first), sealedMessage(serverData, 0, given), sealedData(serverData, 1, "answer", 7)}

	client := impl.RunEnd(c, []impl.Event{bytesEvent(toClient...), writing("question")})
	server := impl.RunEnd(s, []impl.Event{bytesEvent(toServer[0]), waiting(3), bytesEvent(toServer[1:]...), writing("answer")})
	checkList(t, "sent by the client", client.Sent, slices.Concat(toServer...))
	checkList(t, "sent by the server", server.Sent, slices.Concat(toClient...))
	for what, r := range map[string]impl.EndReport{"client": client, "server": server} {
		checkList(t, what+": transcript", r.Transcript, whole)
		checkList(t, what+": exporter", r.Exporter, impl.Derive(master, "exporter", half))
		if r.Phase != impl.PhaseOpen || r.Protocol != "h2" || r.Resumed || r.EarlyTaken || r.EarlyRead != 0 {
			t.Errorf("%s: %s", what, reportInShort(r))
		}
	}
	checkList(t, "read by the client", client.Read, []byte("answer"))
	checkList(t, "read by the server", server.Read, []byte("question"))
	want := impl.Saved{Ticket: ticket, Psk: psk, Random: state.Random, Got: 5000, Life: 500, Host: shopHost, Protocol: "h2", Early: 4096}
	if !sameSaved(client.Saved, want) || !sameSaved(server.Saved, impl.Saved{}) {
		t.Errorf("saved: %s", reportInShort(client))
	}
}

// resumedBytes is a handshake with a ticket, in which the early data are taken or not.
type resumedBytes struct {
	toServer   [][]byte
	toClient   [][]byte
	exporter   []byte
	transcript []byte
	mark       impl.Mark
}

func resumedBytesOf(c impl.EndConfig, s impl.EndConfig, psk []byte, taken bool) resumedBytes {
	m := impl.Message{Kind: 1, Version: 1, Random: seedOf(c, "random"), Share: impl.LadderPublic(seedOf(c, "share")), Host: shopHost,
		Ticket: c.Saved.Ticket, Age: impl.TicketAge(c.Saved.Random, c.Now-c.Saved.Got), Early: 1, Binder: make([]byte, 32)}
	m.Binder = impl.BinderMac(psk, impl.HelloHead(m))
	hello := formOf(m)
	early := impl.Derive(impl.EarlySecret(psk), "early", impl.Hash(hello))
	answer := formOf(impl.Message{Kind: 2, Version: 1, Random: seedOf(s, "random"), Share: impl.LadderPublic(seedOf(s, "share")), Resumed: true})
	shared := impl.LadderShared(seedOf(s, "share"), m.Share).Key
	hs := impl.HandshakeSecret(impl.EarlySecret(psk), shared)
	clientHs := impl.Derive(hs, "client hs", hashOfAll(hello, answer))
	serverHs := impl.Derive(hs, "server hs", hashOfAll(hello, answer))
	extras := formOf(impl.Message{Kind: 8})
	var end []byte
	if taken {
		extras = formOf(impl.Message{Kind: 8, Early: 1})
		end = formOf(impl.Message{Kind: 5})
	}
	first := formOf(impl.Message{Kind: 20, Proof: impl.FinishedMac(serverHs, hashOfAll(hello, answer, extras))})
	half := hashOfAll(hello, answer, extras, first)
	master := impl.MasterSecret(hs)
	second := formOf(impl.Message{Kind: 20, Proof: impl.FinishedMac(clientHs, hashOfAll(hello, answer, extras, first, end))})
	toServer := [][]byte{plainRecord(hello), sealedData(early, 0, "early words", c.Pad)}
	if taken {
		toServer = append(toServer, sealedMessage(early, 1, end))
	}
	return resumedBytes{
		toServer:   append(toServer, sealedMessage(clientHs, 0, second)),
		toClient:   [][]byte{plainRecord(answer), sealedMessage(serverHs, 0, extras), sealedMessage(serverHs, 1, first)},
		exporter:   impl.Derive(master, "exporter", half),
		transcript: hashOfAll(hello, answer, extras, first, end, second),
		mark:       impl.Mark{Id: impl.Hash(m.Binder), Until: s.Now + 2*s.Window.Width},
	}
}

func TestBytesOfAResumedHandshake(t *testing.T) {
	for _, taken := range []bool{true, false} {
		c, s := earlyClient(), shopServer()
		c.Pad, s.Life = 256, 0
		if !taken {
			s.EarlyMost = 0
		}
		want := resumedBytesOf(c, s, shopState().Psk, taken)
		client := impl.RunEnd(c, []impl.Event{bytesEvent(want.toClient...)})
		server := impl.RunEnd(s, []impl.Event{bytesEvent(want.toServer...)})
		checkList(t, "sent by the client", client.Sent, slices.Concat(want.toServer...))
		checkList(t, "sent by the server", server.Sent, slices.Concat(want.toClient...))
		for what, r := range map[string]impl.EndReport{"client": client, "server": server} {
			checkList(t, what+": transcript", r.Transcript, want.transcript)
			checkList(t, what+": exporter", r.Exporter, want.exporter)
			if r.Phase != impl.PhaseOpen || !r.Resumed || r.EarlyTaken != taken {
				t.Errorf("%s: %s", what, reportInShort(r))
			}
		}
		if taken {
			checkList(t, "read early", server.Read, c.Early)
			if !sameWindow(server.Window, impl.Window{Width: 10, Marks: []impl.Mark{want.mark}}) || server.EarlyRead != 11 {
				t.Errorf("taken: %s", reportInShort(server))
			}
		} else if len(server.Read) > 0 || server.EarlyRead != 0 || !sameWindow(server.Window, s.Window) {
			t.Errorf("not taken: %s", reportInShort(server))
		}
	}
}

// known is what a report tells besides what was sent.
type known struct {
	resumed    bool
	taken      bool
	protocol   string
	exporter   bool
	transcript bool
	marks      int
	phase      int64
}

func knownOf(r impl.EndReport) known {
	return known{r.Resumed, r.EarlyTaken, r.Protocol, len(r.Exporter) > 0, len(r.Transcript) > 0, len(r.Window.Marks), r.Phase}
}

// checkKnown brings records one by one, and asks behind each what is told; then for the same with an end that fails there.
func checkKnown(t *testing.T, what string, c impl.EndConfig, sent []byte, wants []known) {
	t.Helper()
	records := impl.CutRecords(sent).Records
	if len(records) != len(wants)-1 {
		t.Fatalf("%s: there are %d records", what, len(records))
	}
	var events []impl.Event
	for i, want := range wants {
		r := checkRun(t, what, c, events)
		if knownOf(r) != want {
			t.Errorf("%s behind %d records: %v, not %v", what, i, knownOf(r), want)
		}
		broken := checkRun(t, what+", broken", c, append(slices.Clone(events), bytesEvent([]byte{9})))
		want.phase = impl.PhaseFailed
		if knownOf(broken) != want || !bytes.Equal(broken.Exporter, r.Exporter) || !bytes.Equal(broken.Transcript, r.Transcript) {
			t.Errorf("%s broken behind %d records: %v, not %v", what, i, knownOf(broken), want)
		}
		if i < len(records) {
			events = append(events, bytesEvent(impl.EncodeRecord(records[i])))
		}
	}
}

func TestWhatIsToldWhen(t *testing.T) {
	c, s := earlyClient(), shopServer()
	c.Protocols, s.Protocols = []string{"h2"}, []string{"h2"}
	state := shopState()
	state.Protocol = "h2"
	c.Saved = savedOf(state)
	c.Saved.Ticket = impl.SealTicket(s.TicketKey, upwards(12), state)
	s.Life = 0
	client := playClient(c, s).back().open()
	checkKnown(t, "client, early data taken", c, client.other.r.Sent, []known{
		{},
		{resumed: true},
		{resumed: true, taken: true, protocol: "h2"},
		{resumed: true, taken: true, protocol: "h2", exporter: true, transcript: true, phase: impl.PhaseOpen},
	})
	early := known{resumed: true, taken: true, protocol: "h2", exporter: true, marks: 1}
	open := early
	open.transcript, open.phase = true, impl.PhaseOpen
	checkKnown(t, "server, early data taken", s, client.subject.r.Sent, []known{{}, early, early, early, open})
	c.Saved, c.Early = impl.Saved{}, nil
	client = playClient(c, s).back().open()
	checkKnown(t, "client", c, client.other.r.Sent, []known{
		{}, {}, {protocol: "h2"}, {protocol: "h2"}, {protocol: "h2"},
		{protocol: "h2", exporter: true, transcript: true, phase: impl.PhaseOpen},
	})
	checkKnown(t, "server", s, client.subject.r.Sent, []known{
		{}, {protocol: "h2", exporter: true}, {protocol: "h2", exporter: true, transcript: true, phase: impl.PhaseOpen},
	})
}
