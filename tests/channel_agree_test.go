package tests

import (
	"testing"

	"loop.example/g00004/impl"
)

// What Agreement answers of any report, and of those of real channels.

func checkAgreement(t *testing.T, what string, r impl.ChannelReport, want int64) {
	t.Helper()
	if got := impl.Agreement(r); got != want || toldAgreement(r) != want {
		t.Errorf("%s: got %d, want %d, told %d: %s", what, got, want, toldAgreement(r), channelInShort(r))
	}
}

// agreedReport has the same in all that both ends must have the same of, and something else in all other fields.
func agreedReport() impl.ChannelReport {
	side := impl.EndReport{Phase: impl.PhaseOpen, Transcript: upwards(32), Exporter: full(32), Protocol: "h2", Resumed: true, EarlyTaken: true}
	r := impl.ChannelReport{Client: side, Server: side, ToServer: []byte("on the way")}
	r.Server.Transcript, r.Server.Exporter = upwards(32), full(32)
	r.Server.Sent, r.Server.Read, r.Server.EarlyRead, r.Server.Now = []byte("sent"), []byte("read"), 7, 99
	r.Client.Saved.Host, r.Server.Window.Width, r.Client.Alert, r.Server.PeerAlert = "host", 9, impl.AlertNone, impl.AlertNone
	return r
}

// apart are changes with each of which two that agree do not.
func apart() map[string]func(e *impl.EndReport) {
	return map[string]func(e *impl.EndReport){
		"another transcript":      func(e *impl.EndReport) { e.Transcript = full(32) },
		"a bit of the transcript": func(e *impl.EndReport) { e.Transcript = withBit(e.Transcript, 255) },
		"a shorter transcript":    func(e *impl.EndReport) { e.Transcript = e.Transcript[:31] },
		"a longer transcript":     func(e *impl.EndReport) { e.Transcript = append(upwards(32), 0) },
		"another exporter":        func(e *impl.EndReport) { e.Exporter = upwards(32) },
		"a bit of the exporter":   func(e *impl.EndReport) { e.Exporter = withBit(e.Exporter, 0) },
		"no exporter":             func(e *impl.EndReport) { e.Exporter = nil },
		"another protocol":        func(e *impl.EndReport) { e.Protocol = "h3" },
		"no protocol":             func(e *impl.EndReport) { e.Protocol = "" },
		"not resumed":             func(e *impl.EndReport) { e.Resumed = false },
		"early data not taken":    func(e *impl.EndReport) { e.EarlyTaken = false },
	}
}

func sideOf(r *impl.ChannelReport, end int64) *impl.EndReport {
	if end == clientEnd {
		return &r.Client
	}
	return &r.Server
}

func TestAgreementAnswers(t *testing.T) {
	t.Parallel()
	checkAgreement(t, "nothing", impl.ChannelReport{}, impl.AgreeNot)
	checkAgreement(t, "a fault", impl.ChannelReport{Fault: 3}, impl.AgreeNot)
	checkAgreement(t, "all the same", agreedReport(), impl.AgreeBoth)
	for what, change := range apart() {
		for _, end := range endNumbers() {
			r := agreedReport()
			change(sideOf(&r, end))
			checkAgreement(t, what, r, impl.AgreeNever)
			sideOf(&r, 1-end).Transcript = nil
			checkAgreement(t, what+", and no transcript at the other end", r, impl.AgreeHalf)
			sideOf(&r, end).Transcript = []byte{}
			checkAgreement(t, what+", and no transcript", r, impl.AgreeNot)
		}
	}
}

// Whatever else there is, an end that has failed comes first; of the other phases, and those that there are not, none counts.
func TestAgreementOfFailedEnds(t *testing.T) {
	t.Parallel()
	for what, change := range apart() {
		for _, transcripts := range []int{0, 1, 2, 3} {
			for _, phases := range [][2]int64{{3, 0}, {0, 3}, {3, 3}, {3, 1}, {1, 3}, {2, 3}, {3, 2}, {-1, 3}} {
				r := agreedReport()
				change(&r.Server)
				for _, end := range endNumbers() {
					sideOf(&r, end).Phase = phases[end]
					if transcripts>>end&1 == 0 {
						sideOf(&r, end).Transcript = nil
					}
				}
				checkAgreement(t, what, r, impl.AgreeEnded)
			}
		}
	}
	for _, phases := range [][2]int64{{0, 0}, {1, 2}, {2, 2}, {0, 2}, {4, -1}, {1<<32 + 3, 0}, {0, -3}, {19, 7}} {
		r := agreedReport()
		r.Client.Phase, r.Server.Phase = phases[0], phases[1]
		checkAgreement(t, "phases", r, impl.AgreeBoth)
		r.Client.Protocol = "x"
		checkAgreement(t, "phases", r, impl.AgreeNever)
		r.Client.Transcript = nil
		checkAgreement(t, "phases", r, impl.AgreeHalf)
		r.Server.Transcript = nil
		checkAgreement(t, "phases", r, impl.AgreeNot)
	}
}

// The exporter alone is there earlier, and does not count.
func TestAgreementAlongAHandshake(t *testing.T) {
	t.Parallel()
	steps := []impl.Step{deliverAllStep(serverEnd), deliverAllStep(clientEnd), deliverAllStep(serverEnd), writeStep(clientEnd, "x"), closeStep(clientEnd), closeStep(serverEnd), flushStep()}
	wants := []int64{impl.AgreeNot, impl.AgreeNot, impl.AgreeHalf, impl.AgreeBoth, impl.AgreeBoth, impl.AgreeBoth, impl.AgreeBoth, impl.AgreeBoth}
	for count, want := range wants {
		r := checkHonest(t, "a beginning", shopClient(), shopServer(), steps[:count]...)
		checkAgreement(t, "a beginning", r, want)
		if count == 1 && len(r.Server.Exporter) != 32 {
			t.Errorf("the server has sent its Finished and has no exporter: %s", channelInShort(r))
		}
		r = checkHonest(t, "an alert behind it", shopClient(), shopServer(), append(steps[:count:count], forgeStep(serverEnd, 9))...)
		if count < 7 {
			checkAgreement(t, "an alert behind it", r, impl.AgreeEnded)
		}
	}
}
