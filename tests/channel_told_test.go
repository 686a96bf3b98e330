package tests

import (
	"bytes"
	"fmt"
	"math"
	"slices"
	"testing"

	"loop.example/g00004/impl"
)

// Chapter 18 done another way: two ends of chapter 17 done another way, and of each way only how much of it is gone, and
// which of all bytes that were ever sent were changed on it.

const (
	clientEnd = 0
	serverEnd = 1
)

func endNumbers() []int64 {
	return []int64{clientEnd, serverEnd}
}

func allStepKinds() []int64 {
	return []int64{impl.StWrite, impl.StClose, impl.StUpdate, impl.StTime, impl.StDeliver, impl.StDrop, impl.StFlip, impl.StForge, impl.StAgain, impl.StFlush}
}

func writeStep(end int64, data string) impl.Step {
	return impl.Step{Kind: impl.StWrite, End: end, Data: []byte(data)}
}

func closeStep(end int64) impl.Step {
	return impl.Step{Kind: impl.StClose, End: end}
}

func updateStep(end int64, number int64) impl.Step {
	return impl.Step{Kind: impl.StUpdate, End: end, Number: number}
}

func timeStep(end int64, seconds int64) impl.Step {
	return impl.Step{Kind: impl.StTime, End: end, Number: seconds}
}

func deliverStep(end int64, count int64) impl.Step {
	return impl.Step{Kind: impl.StDeliver, End: end, Count: count}
}

// deliverAllStep brings all that is on a way of at most MaxSpan bytes.
func deliverAllStep(end int64) impl.Step {
	return deliverStep(end, impl.MaxSpan)
}

func dropStep(end int64, count int64) impl.Step {
	return impl.Step{Kind: impl.StDrop, End: end, Count: count}
}

func flipStep(end int64, place int64, change byte) impl.Step {
	return impl.Step{Kind: impl.StFlip, End: end, Number: place, Data: []byte{change}}
}

func forgeStep(end int64, data ...byte) impl.Step {
	return impl.Step{Kind: impl.StForge, End: end, Data: data}
}

func againStep(end int64, from int64, count int64) impl.Step {
	return impl.Step{Kind: impl.StAgain, End: end, Number: from, Count: count}
}

func flushStep() impl.Step {
	return impl.Step{Kind: impl.StFlush}
}

// toldStepFault is the table of the chapter: the ends that a kind has, the greatest numbers, and how many bytes at least
// and at most.
func toldStepFault(s impl.Step) int64 {
	const span, any = 65536, math.MaxInt64
	row, known := map[int64][5]int64{
		1:  {1, 0, 0, 0, any},
		2:  {1, 0, 0, 0, 0},
		3:  {1, 1, 0, 0, 0},
		4:  {1, lastTime, 0, 0, 0},
		5:  {1, 0, span, 0, 0},
		6:  {1, 0, span, 0, 0},
		7:  {1, span, 0, 1, 1},
		8:  {1, 0, 0, 0, any},
		9:  {1, span, span, 0, 0},
		10: {0, 0, 0, 0, 0},
	}[s.Kind]
	holds := []bool{known, toldBetween(s.End, 0, row[0]), toldBetween(s.Number, 0, row[1]), toldBetween(s.Count, 0, row[2]),
		toldBetween(int64(len(s.Data)), row[3], row[4])}
	return int64(slices.Index(holds, false) + 1)
}

type toldNetwork struct {
	ends    [2]*playedEnd
	gone    [2]int
	changed [2]map[int]byte
}

func newToldNetwork(client impl.EndConfig, server impl.EndConfig) *toldNetwork {
	return &toldNetwork{ends: [2]*playedEnd{playEnd(client), playEnd(server)}, changed: [2]map[int]byte{{}, {}}}
}

// sentTo is all that was ever sent to an end.
func (n *toldNetwork) sentTo(end int64) []byte {
	return bytes.Clone(n.ends[1-end].r.Sent)
}

func (n *toldNetwork) way(end int64) []byte {
	sent := n.sentTo(end)
	for place, change := range n.changed[end] {
		sent[place] ^= change
	}
	return sent[n.gone[end]:]
}

func (n *toldNetwork) lose(end int64, count int) []byte {
	way := n.way(end)
	count = min(count, len(way))
	n.gone[end] += count
	return way[:count]
}

func (n *toldNetwork) bytes(end int64, data []byte) int64 {
	return n.ends[end].take(bytesEvent(data))
}

func (n *toldNetwork) flip(s impl.Step) int64 {
	if int(s.Number) >= len(n.way(s.End)) {
		return 1
	}
	n.changed[s.End][n.gone[s.End]+int(s.Number)] ^= s.Data[0]
	return 0
}

func (n *toldNetwork) step(s impl.Step) int64 {
	switch s.Kind {
	case impl.StDeliver:
		return n.bytes(s.End, n.lose(s.End, int(s.Count)))
	case impl.StDrop:
		n.lose(s.End, int(s.Count))
		return 0
	case impl.StFlip:
		return n.flip(s)
	case impl.StForge:
		return n.bytes(s.End, s.Data)
	case impl.StAgain:
		sent := n.sentTo(s.End)
		from := min(int(s.Number), len(sent))
		return n.bytes(s.End, sent[from:min(from+int(s.Count), len(sent))])
	case impl.StFlush:
		for range 8 {
			n.bytes(serverEnd, n.lose(serverEnd, math.MaxInt))
			n.bytes(clientEnd, n.lose(clientEnd, math.MaxInt))
		}
		return 0
	}
	kinds := map[int64]int64{impl.StWrite: impl.EvWrite, impl.StClose: impl.EvClose, impl.StUpdate: impl.EvUpdate, impl.StTime: impl.EvTime}
	return n.ends[s.End].take(impl.Event{Kind: kinds[s.Kind], Number: s.Number, Data: s.Data})
}

func (n *toldNetwork) report(answers []int64) impl.ChannelReport {
	return impl.ChannelReport{Answers: answers, Client: n.ends[clientEnd].r, Server: n.ends[serverEnd].r, ToServer: n.way(serverEnd), ToClient: n.way(clientEnd)}
}

func toldChannelFault(client impl.EndConfig, server impl.EndConfig, steps []impl.Step) int64 {
	fed := 0
	for _, s := range steps {
		fed += len(s.Data)
	}
	wrong := func(s impl.Step) bool { return toldStepFault(s) != 0 }
	holds := []bool{!client.Server && toldConfig(client) == 0, server.Server && toldConfig(server) == 0, len(steps) < 201,
		!slices.ContainsFunc(steps, wrong), fed < 200001}
	return int64(slices.Index(holds, false) + 1)
}

func toldChannel(client impl.EndConfig, server impl.EndConfig, steps []impl.Step) impl.ChannelReport {
	if fault := toldChannelFault(client, server, steps); fault != 0 {
		return impl.ChannelReport{Fault: fault}
	}
	n := newToldNetwork(client, server)
	var answers []int64
	for _, s := range steps {
		answers = append(answers, n.step(s))
	}
	return n.report(answers)
}

// toldAgreement holds all that must be equal against each other as one text.
func toldAgreement(r impl.ChannelReport) int64 {
	var texts []string
	for _, e := range []impl.EndReport{r.Client, r.Server} {
		if e.Phase == 3 {
			return 3
		}
		if len(e.Transcript) != 0 {
			texts = append(texts, fmt.Sprintf("%x %x %q %v %v", e.Transcript, e.Exporter, e.Protocol, e.Resumed, e.EarlyTaken))
		}
	}
	if len(texts) < 2 {
		return int64(len(texts))
	}
	if texts[0] == texts[1] {
		return 2
	}
	return 4
}

func sameChannel(a impl.ChannelReport, b impl.ChannelReport) bool {
	return a.Fault == b.Fault && slices.Equal(a.Answers, b.Answers) && sameReport(a.Client, b.Client) && sameReport(a.Server, b.Server) &&
		bytes.Equal(a.ToServer, b.ToServer) && bytes.Equal(a.ToClient, b.ToClient)
}

func channelInShort(r impl.ChannelReport) string {
	return fmt.Sprintf("fault %d, answers %v, to the server %d bytes %x, to the client %d bytes %x\n  client: %s\n  server: %s", r.Fault, r.Answers,
		len(r.ToServer), beginning(r.ToServer), len(r.ToClient), beginning(r.ToClient), reportInShort(r.Client), reportInShort(r.Server))
}

func stepsInShort(steps []impl.Step) string {
	text := ""
	for _, s := range steps {
		text += fmt.Sprintf(" [%d %d %d %d %x]", s.Kind, s.End, s.Number, s.Count, beginning(s.Data))
	}
	return text
}

// checkChannel holds the program to the chapter done another way.
func checkChannel(t *testing.T, what string, client impl.EndConfig, server impl.EndConfig, steps ...impl.Step) impl.ChannelReport {
	t.Helper()
	got, want := impl.RunChannel(client, server, steps), toldChannel(client, server, steps)
	if !sameChannel(got, want) {
		t.Errorf("%s:%s\ngot  %s\nwant %s", what, stepsInShort(steps), channelInShort(got), channelInShort(want))
	}
	if len(got.Client.Answers)+len(got.Server.Answers) != 0 {
		t.Errorf("%s: the reports of the ends have the answers %v and %v", what, got.Client.Answers, got.Server.Answers)
	}
	if impl.Agreement(got) != toldAgreement(got) {
		t.Errorf("%s: the agreement %d, not %d: %s", what, impl.Agreement(got), toldAgreement(got), channelInShort(got))
	}
	return got
}

// written is what an end has written, the early data ahead of it if they were taken.
func written(end int64, client impl.EndConfig, steps []impl.Step, r impl.ChannelReport) []byte {
	var all []byte
	if end == clientEnd && r.Server.EarlyTaken {
		all = append(all, client.Early...)
	}
	for i, s := range steps {
		if s.Kind == impl.StWrite && s.End == end && r.Answers[i] == 0 {
			all = append(all, s.Data...)
		}
	}
	return all
}

// checkHonest holds the promises 29 and 30 against a network in which nobody seals but the two ends.
func checkHonest(t *testing.T, what string, client impl.EndConfig, server impl.EndConfig, steps ...impl.Step) impl.ChannelReport {
	t.Helper()
	r := checkChannel(t, what, client, server, steps...)
	if r.Fault != 0 {
		t.Fatalf("%s:%s: the fault %d", what, stepsInShort(steps), r.Fault)
	}
	if impl.Agreement(r) == impl.AgreeNever {
		t.Errorf("%s:%s\nthe ends disagree: %s", what, stepsInShort(steps), channelInShort(r))
	}
	if !bytes.HasPrefix(written(clientEnd, client, steps, r), r.Server.Read) {
		t.Errorf("%s:%s\nthe server has read %q, which the client did not write", what, stepsInShort(steps), beginning(r.Server.Read))
	}
	if !bytes.HasPrefix(written(serverEnd, client, steps, r), r.Client.Read) {
		t.Errorf("%s:%s\nthe client has read %q, which the server did not write", what, stepsInShort(steps), beginning(r.Client.Read))
	}
	return r
}
