package tests

import (
	"bytes"
	"fmt"
	"math/rand"
	"testing"

	"loop.example/g00004/impl"
)

// Early data: how much of them is read, and how much is passed over where they are not taken.

// earlyPlay is a server that takes early data, with a ticket that lets it read so many, and a client that has sent none yet.
func earlyPlay(most int64) *play {
	state := shopState()
	state.Early = most
	client := earlyClient()
	client.Early, client.Saved = []byte{1}, savedOf(state)
	client.Saved.Early = 1
	return playServer(client, shopServer()).records(1).back().backTo(4, 0)
}

func TestEarlyDataUpToTheTicket(t *testing.T) {
	t.Parallel()
	for _, one := range []struct {
		most  int64
		sizes []int
		fits  bool
	}{
		{1, []int{1}, true}, {1, []int{2}, false}, {1, []int{1, 0, 0}, true}, {1, []int{1, 1}, false},
		{0, nil, true}, {0, []int{0, 0}, true}, {0, []int{1}, false},
		{4096, []int{2048, 2048}, true}, {4096, []int{2048, 2048, 0}, true}, {4096, []int{2048, 2048, 1}, false}, {4096, []int{2047, 2048, 2}, false},
		{5000, []int{2048, 2048, 904}, true}, {5000, []int{2048, 2048, 905}, false}, {lastAge, []int{2048, 2048, 2048, 2048, 2048, 2048}, true},
		{9, []int{3, 3, 3}, true}, {9, []int{3, 3, 4}, false},
	} {
		p := earlyPlay(one.most)
		var read []byte
		for i, size := range one.sizes {
			data := bytes.Repeat([]byte{byte(i + 1)}, size)
			p.other.send(23, data, int64(i))
			if int64(len(read)+size) <= one.most {
				read = append(read, data...)
			}
		}
		p.deliver()
		what := fmt.Sprint(one.sizes, " of ", one.most)
		var got impl.EndReport
		if one.fits {
			got = p.check(t, what, impl.PhaseWaiting, noAlert, noAlert)
		} else {
			got = p.checkFails(t, what, impl.AlertUnexpected)
		}
		checkList(t, what, got.Read, read)
		if got.EarlyRead != int64(len(read)) || !got.EarlyTaken {
			t.Errorf("%s: %s", what, reportInShort(got))
		}
		if !one.fits {
			continue
		}
		p.says(impl.Message{Kind: impl.KindEndOfEarly})
		p.other.finish()
		got = p.deliver().checkOpen(t, what+", then open")
		// What comes now is not early.
		got = p.sends(23, []byte("late")).checkOpen(t, what+", then data")
		checkList(t, what, got.Read, append(read, "late"...))
		if got.EarlyRead != int64(len(read)) {
			t.Errorf("%s: later data count as early: %d", what, got.EarlyRead)
		}
	}
}

// How much a server takes by its own configuration plays no part once it takes any.
func TestEarlyDataByTheTicketAlone(t *testing.T) {
	t.Parallel()
	for _, most := range []int64{1, 10, lastAge} {
		server := shopServer()
		server.EarlyMost = most
		got := playServer(earlyClient(), server).open().checkOpen(t, "early")
		checkList(t, "early", got.Read, earlyClient().Early)
	}
}

// Between early data and the end of them no other message may come, and nothing sealed with another secret.
func TestEarlyDataAndNothingElse(t *testing.T) {
	t.Parallel()
	p := earlyPlay(100).sends(23, []byte("some"))
	secret := p.subject.secret("client hs")
	p.bytes(impl.Protect(impl.TrafficKeys(secret), 0, 22, []byte{5, 0, 0, 0}, 0)).checkFails(t, "the secret of the handshake", impl.AlertBadRecord)
	p = earlyPlay(100).sends(23, []byte("some"))
	p.says(impl.Message{Kind: impl.KindEndOfEarly})
	early := p.other.secret("early")
	p.bytes(impl.Protect(impl.TrafficKeys(early), 2, 23, []byte("more"), 0)).checkFails(t, "the early secret behind its end", impl.AlertBadRecord)
	p = earlyPlay(100)
	p.other.send(23, []byte("lost"), 0)
	p.heard = len(p.other.r.Sent)
	p.sends(23, []byte("next")).checkFails(t, "one record is missing", impl.AlertBadRecord)
}

// passingPlay is a server that does not take the early data that the Hello has told of.
func passingPlay() *play {
	p := playServer(earlyClient(), noEarlyServer()).records(1).back()
	return p.backTo(len(p.other.messages)-1, 0)
}

func strange(size int) []byte {
	return toldRecordForm(impl.Record{Kind: 23, Body: bytes.Repeat([]byte{0x5a}, size)})
}

// Records that do not open are passed over, up to MaxSkipped bytes of their bodies; the one with which there are more fails.
func TestPassedOverUpToTheMost(t *testing.T) {
	t.Parallel()
	for _, one := range []struct {
		sizes []int
		alert int64
	}{
		{nil, noAlert},
		{[]int{1}, noAlert}, {[]int{16}, noAlert}, {[]int{17}, noAlert}, {[]int{2321}, noAlert},
		{[]int{2048, 2048, 2048, 2048}, noAlert},
		{[]int{2048, 2048, 2048, 2048, 1}, impl.AlertOverflow},
		{[]int{2048, 2048, 2048, 2048, 16}, impl.AlertOverflow},
		{[]int{2048, 2048, 2048, 2048, 17}, impl.AlertBadRecord},
		{[]int{2048, 2048, 2048, 2049}, impl.AlertBadRecord},
		{[]int{2321, 2321, 2321, 1229}, noAlert},
		{[]int{2321, 2321, 2321, 1230}, impl.AlertBadRecord},
		{[]int{2321, 2321, 2321, 1228, 1}, noAlert},
		{[]int{2321, 2321, 2321, 1228, 2}, impl.AlertOverflow},
		{[]int{1, 16, 17, 2321, 2321, 2321, 1195}, noAlert},
		{[]int{1, 16, 17, 2321, 2321, 2321, 1196}, impl.AlertBadRecord},
		{[]int{2321, 2321, 2321, 2321}, impl.AlertBadRecord},
	} {
		p := passingPlay()
		for _, size := range one.sizes {
			p.bytes(strange(size))
		}
		what := fmt.Sprint("passed over ", one.sizes)
		if one.alert != noAlert {
			p.checkFails(t, what, one.alert)
			continue
		}
		p.check(t, what, impl.PhaseWaiting, noAlert, noAlert)
		// The first that opens has the number 0, however many were passed over.
		p.other.finish()
		p.deliver().checkOpen(t, what+", then Finished")
		p.bytes(strange(20)).checkFails(t, what+", then no more", impl.AlertBadRecord)
	}
}

// MaxSkipped bytes in the shortest records, all in one event.
func TestPassedOverInManyRecords(t *testing.T) {
	t.Parallel()
	p := passingPlay()
	all := bytes.Repeat(strange(16), 512)
	p.bytes(all).check(t, "the shortest", impl.PhaseWaiting, noAlert, noAlert)
	p.bytes(strange(1)).checkFails(t, "one byte more", impl.AlertOverflow)
}

// Once a record was opened none is passed over, though it fits into what may be.
func TestNotPassedOverBehindWhatOpens(t *testing.T) {
	t.Parallel()
	part := []byte{20, 0, 0, 32, 1}
	for size, alert := range map[int]int64{1: impl.AlertOverflow, 16: impl.AlertOverflow, 17: impl.AlertBadRecord, 300: impl.AlertBadRecord} {
		p := passingPlay().bytes(strange(100)).sends(22, part)
		p.check(t, "part of Finished", impl.PhaseWaiting, noAlert, noAlert)
		p.bytes(strange(size)).checkFails(t, "behind it", alert)
	}
}

// Only what does not open is passed over: what opens and is wrong inside fails as ever.
func TestWhatOpensIsNotPassedOver(t *testing.T) {
	t.Parallel()
	for _, inside := range [][]byte{{0}, insideOf([]byte("x"), 20, 0), insideOf(nil, 22, 0), insideOf([]byte("data"), 23, 0)} {
		passingPlay().bytes(strange(40)).inside(inside).checkFails(t, "opens and is wrong", impl.AlertUnexpected)
	}
	passingPlay().inside(insideOf(upwards(2049), 23, 0)).checkFails(t, "opens and is too long", impl.AlertOverflow)
	passingPlay().bytes(strange(40)).bytes([]byte{21, 0, 1, 42}).check(t, "a plain alert", impl.PhaseFailed, noAlert, 42)
	passingPlay().bytes(strange(40)).bytes(plainRecord([]byte{1})).checkFails(t, "a plain record", impl.AlertUnexpected)
}

// Without early data in the Hello, or where they are taken, nothing is passed over.
func TestNothingIsPassedOver(t *testing.T) {
	t.Parallel()
	for size, alert := range map[int]int64{1: impl.AlertOverflow, 16: impl.AlertOverflow, 17: impl.AlertBadRecord, 2321: impl.AlertBadRecord} {
		playServer(shopClient(), shopServer()).deliver().bytes(strange(size)).checkFails(t, "no ticket", alert)
		playServer(backClient(), shopServer()).deliver().bytes(strange(size)).checkFails(t, "no early data", alert)
		playServer(backClient(), noEarlyServer()).deliver().bytes(strange(size)).checkFails(t, "no early data, and none taken", alert)
		playServer(earlyClient(), shopServer()).records(1).bytes(strange(size)).checkFails(t, "taken", alert)
		playClient(earlyClient(), shopServer()).back().records(1).bytes(strange(size)).checkFails(t, "client", alert)
	}
}

// Whatever the reason is that they are not taken, real early data of any size and padding are passed over, and all is well.
func TestRealEarlyDataArePassedOver(t *testing.T) {
	t.Parallel()
	r := rand.New(rand.NewSource(394))
	for what, change := range map[string]func(s *impl.EndConfig){
		"no early data":       func(s *impl.EndConfig) { s.EarlyMost = 0 },
		"another key":         func(s *impl.EndConfig) { s.TicketKey = upwards(32) },
		"a full window":       func(s *impl.EndConfig) { s.Window = windowOf(10, sameUntils(64, 5000)...) },
		"the age is far off":  func(s *impl.EndConfig) { s.Now, s.Window.Width = 5020, 19 },
		"the ticket is old":   func(s *impl.EndConfig) { s.Now = 5401 },
		"the ticket is young": func(s *impl.EndConfig) { s.Now = 4899 },
	} {
		for _, size := range []int{1, 2048, 4096} {
			client, server := earlyClient(), shopServer()
			change(&server)
			client.Early, client.Pad = randomList(r, size), r.Int63n(257)
			one := shakeCase{what: what, client: client, server: server, resumed: server.Now < 5401 && server.Now > 4899 && what != "another key"}
			one.check(t)
		}
	}
}

// The mark of early data is in the window as soon as they are taken, and stays if the end fails later.
func TestEarlyMarksStay(t *testing.T) {
	t.Parallel()
	p := playServer(earlyClient(), shopServer()).records(1).bytes([]byte{9})
	got := p.checkFails(t, "fails behind the Hello", impl.AlertUnexpected)
	binder := playEnd(earlyClient()).messages[0].Binder
	if len(got.Window.Marks) != 1 || !bytes.Equal(got.Window.Marks[0].Id, impl.Hash(binder)) || !got.EarlyTaken {
		t.Errorf("the window is %s", windowInShort(got.Window))
	}
}
