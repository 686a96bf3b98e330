package tests

import (
	"fmt"
	"math"
	"math/rand"
	"strings"
	"testing"

	"loop.example/g00004/impl"
)

// FormatReport: each line by itself, of any report at all.

func checkReportText(t *testing.T, what string, r impl.WorldReport, want string) {
	t.Helper()
	checkText(t, what, impl.FormatReport(r), want)
	checkText(t, what+", told another way", impl.FormatReport(r), toldFormatReport(r))
}

// With a fault there is one line, whatever else stands in the report.
func TestReportTextOfFaults(t *testing.T) {
	t.Parallel()
	fed := impl.RunWorld(someWorld())
	for _, fault := range append(strangeNumbers(), -1, 1, 2, 3, 4, 5, 6, 7, 10, 99, 100) {
		want := fmt.Sprintf("fault %d\n", fault)
		checkReportText(t, "a fault", impl.WorldReport{Fault: fault}, want)
		r := fed
		r.Fault = fault
		checkReportText(t, "a fault and all else", r, want)
	}
	checkReportText(t, "a fault", impl.WorldReport{Fault: 6}, "fault 6\n")
	checkReportText(t, "a fault below", impl.WorldReport{Fault: -12}, "fault -12\n")
}

func TestReportTextOfNothing(t *testing.T) {
	t.Parallel()
	checkReportText(t, "nothing", impl.WorldReport{}, "saved -\nwindow 0\n")
	empty := impl.WorldReport{Channels: []impl.ChannelReport{}, Saved: impl.Saved{Ticket: []byte{}}, Window: impl.Window{Marks: []impl.Mark{}}}
	checkReportText(t, "empty lists", empty, "saved -\nwindow 0\n")
}

const nothingOfAnEnd = " 0 0 0 0 0 0 0 - - - -\n"

func TestReportTextOfChannels(t *testing.T) {
	t.Parallel()
	nothing := "client" + nothingOfAnEnd + "server" + nothingOfAnEnd + "way - -\n"
	for _, count := range []int{1, 2, 8, 9, 10, 11, 101} {
		want := ""
		for i := range count {
			want += fmt.Sprintf("connection %d\n", i) + nothing
		}
		checkReportText(t, fmt.Sprint(count, " channels"), impl.WorldReport{Channels: make([]impl.ChannelReport, count)}, want+"saved -\nwindow 0\n")
	}
	ways := impl.ChannelReport{ToServer: []byte{1, 2}, ToClient: []byte{255}}
	checkReportText(t, "ways", impl.WorldReport{Channels: []impl.ChannelReport{ways, {ToServer: []byte{0}}, {ToClient: []byte{9}}}}, "connection 0\nclient"+nothingOfAnEnd+"server"+nothingOfAnEnd+"way 0102 ff\n"+
		"connection 1\nclient"+nothingOfAnEnd+"server"+nothingOfAnEnd+"way 00 -\nconnection 2\nclient"+nothingOfAnEnd+"server"+nothingOfAnEnd+"way - 09\nsaved -\nwindow 0\n")
	// A report's own fault, its answers, and what is neither read nor agreed on, are not told.
	strange := impl.ChannelReport{Fault: 3, Answers: []int64{1, 2}}
	strange.Client = impl.EndReport{Fault: 9, Answers: []int64{4}, Sent: []byte{5}, Saved: savedOf(shopState()), Window: windowOf(3, 4)}
	strange.Server = strange.Client
	checkReportText(t, "what is not told", impl.WorldReport{Channels: []impl.ChannelReport{strange}}, "connection 0\n"+nothing+"saved -\nwindow 0\n")
}

// endReportChanges are each to one field, with the line of an end that has nothing else.
func endReportChanges() map[string]func(r *impl.EndReport) {
	return map[string]func(r *impl.EndReport){
		" 3 0 0 0 0 0 0 - - - -":                                      func(r *impl.EndReport) { r.Phase = 3 },
		" -3 0 0 0 0 0 0 - - - -":                                     func(r *impl.EndReport) { r.Phase = -3 },
		" 0 112 0 0 0 0 0 - - - -":                                    func(r *impl.EndReport) { r.Alert = 112 },
		" 0 -1 0 0 0 0 0 - - - -":                                     func(r *impl.EndReport) { r.Alert = -1 },
		" 0 0 51 0 0 0 0 - - - -":                                     func(r *impl.EndReport) { r.PeerAlert = 51 },
		" 0 0 -1 0 0 0 0 - - - -":                                     func(r *impl.EndReport) { r.PeerAlert = -1 },
		" 0 0 0 5000 0 0 0 - - - -":                                   func(r *impl.EndReport) { r.Now = 5000 },
		" 0 0 0 -10 0 0 0 - - - -":                                    func(r *impl.EndReport) { r.Now = -10 },
		" 0 0 0 0 1 0 0 - - - -":                                      func(r *impl.EndReport) { r.Resumed = true },
		" 0 0 0 0 0 1 0 - - - -":                                      func(r *impl.EndReport) { r.EarlyTaken = true },
		" 0 0 0 0 1 1 0 - - - -":                                      func(r *impl.EndReport) { r.Resumed, r.EarlyTaken = true, true },
		" 0 0 0 0 0 0 4096 - - - -":                                   func(r *impl.EndReport) { r.EarlyRead = 4096 },
		" 0 0 0 0 0 0 -5 - - - -":                                     func(r *impl.EndReport) { r.EarlyRead = -5 },
		" 0 0 0 0 0 0 0 6832 - - -":                                   func(r *impl.EndReport) { r.Protocol = "h2" },
		" 0 0 0 0 0 0 0 2d0a20 - - -":                                 func(r *impl.EndReport) { r.Protocol = "-\n " },
		" 0 0 0 0 0 0 0 - 0102 - -":                                   func(r *impl.EndReport) { r.Exporter = []byte{1, 2} },
		" 0 0 0 0 0 0 0 - - ab -":                                     func(r *impl.EndReport) { r.Transcript = []byte{0xab} },
		" 0 0 0 0 0 0 0 - - - 6869":                                   func(r *impl.EndReport) { r.Read = []byte("hi") },
		" 0 0 0 0 0 0 0 - - - 00":                                     func(r *impl.EndReport) { r.Read = []byte{0} },
		" 9223372036854775807 -9223372036854775808 0 0 0 0 0 - - - -": func(r *impl.EndReport) { r.Phase, r.Alert = math.MaxInt64, math.MinInt64 },
		" 1 2 3 4 1 0 5 06 07 08 09": func(r *impl.EndReport) {
			*r = impl.EndReport{Phase: 1, Alert: 2, PeerAlert: 3, Now: 4, Resumed: true, EarlyRead: 5, Protocol: "\x06", Exporter: []byte{7}, Transcript: []byte{8}, Read: []byte{9}}
		},
	}
}

func TestReportTextOfEnds(t *testing.T) {
	t.Parallel()
	for line, change := range endReportChanges() {
		var client, server, both impl.ChannelReport
		change(&client.Client)
		change(&server.Server)
		change(&both.Client)
		change(&both.Server)
		r := impl.WorldReport{Channels: []impl.ChannelReport{client, server, both}}
		checkReportText(t, line, r, "connection 0\nclient"+line+"\nserver"+nothingOfAnEnd+"way - -\nconnection 1\nclient"+nothingOfAnEnd+"server"+line+"\nway - -\n"+
			"connection 2\nclient"+line+"\nserver"+line+"\nway - -\nsaved -\nwindow 0\n")
	}
}

// A ticket that is saved is told with all else; without one nothing of it is.
func TestReportTextOfSaved(t *testing.T) {
	t.Parallel()
	saved := impl.Saved{Ticket: []byte{1}, Psk: []byte{2}, Random: []byte{3}, Got: 4, Life: 5, Early: 6, Host: "a", Protocol: "h2"}
	checkReportText(t, "saved", impl.WorldReport{Saved: saved}, "saved 01 02 03 4 5 6 61 6832\nwindow 0\n")
	none := saved
	none.Ticket = nil
	checkReportText(t, "no ticket", impl.WorldReport{Saved: none}, "saved -\nwindow 0\n")
	none.Ticket = []byte{}
	checkReportText(t, "an empty ticket", impl.WorldReport{Saved: none}, "saved -\nwindow 0\n")
	checkReportText(t, "a ticket alone", impl.WorldReport{Saved: impl.Saved{Ticket: []byte{0}}}, "saved 00 - - 0 0 0 - -\nwindow 0\n")
	saved.Got, saved.Life, saved.Early = -1, math.MinInt64, math.MaxInt64
	checkReportText(t, "numbers", impl.WorldReport{Saved: saved}, "saved 01 02 03 -1 -9223372036854775808 9223372036854775807 61 6832\nwindow 0\n")
	// The host is in digits here, and need not be one.
	for host, want := range map[string]string{"": "-", "-": "2d", "shop.example": "73686f702e6578616d706c65", "A b": "412062", "\n": "0a", "\xff": "ff", longName(300): fmt.Sprintf("%x", longName(300))} {
		saved := impl.Saved{Ticket: []byte{1}, Host: host}
		checkReportText(t, "a host", impl.WorldReport{Saved: saved}, "saved 01 - - 0 0 0 "+want+" -\nwindow 0\n")
	}
}

func TestReportTextOfWindows(t *testing.T) {
	t.Parallel()
	checkReportText(t, "a width", impl.WorldReport{Window: impl.Window{Width: 86400}}, "saved -\nwindow 86400\n")
	checkReportText(t, "a width below", impl.WorldReport{Window: impl.Window{Width: -3}}, "saved -\nwindow -3\n")
	marks := impl.Window{Width: 10, Marks: []impl.Mark{{Id: upwards(32), Until: 7}, {Until: -9}, {Id: []byte{255}}, {Id: []byte{255}, Until: math.MaxInt64}}}
	checkReportText(t, "marks", impl.WorldReport{Window: marks}, "saved -\nwindow 10\nmark "+upwards32+" 7\nmark - -9\nmark ff 0\nmark ff 9223372036854775807\n")
	many := impl.WorldReport{Window: windowOf(1, sameUntils(300, 2)...)}
	if got := strings.Count(impl.FormatReport(many), "\nmark "); got != 300 {
		t.Errorf("%d marks", got)
	}
	checkReportText(t, "many marks", many, toldFormatReport(many))
}

// anyReport has anything in it, also what no world leaves.
func anyReport(r *rand.Rand) impl.WorldReport {
	list := func() []byte { return randomList(r, max(r.Intn(8)-2, 0)) }
	number := func() int64 { return []int64{0, 1, -1, r.Int63n(5000), -r.Int63(), int64(r.Uint64())}[r.Intn(6)] }
	window := func() impl.Window {
		w := impl.Window{Width: number()}
		for range r.Intn(3) {
			w.Marks = append(w.Marks, impl.Mark{Id: list(), Until: number()})
		}
		return w
	}
	saved := func() impl.Saved {
		return impl.Saved{Ticket: list(), Psk: list(), Random: list(), Got: number(), Life: number(), Host: string(list()), Protocol: string(list()), Early: number()}
	}
	end := func() impl.EndReport {
		return impl.EndReport{Fault: number(), Answers: []int64{number()}, Sent: list(), Read: list(), EarlyRead: number(), Phase: number(), Alert: number(), PeerAlert: number(), Now: number(), Resumed: r.Intn(2) == 0,
			EarlyTaken: r.Intn(2) == 0, Protocol: string(list()), Exporter: list(), Transcript: list(), Saved: saved(), Window: window()}
	}
	report := impl.WorldReport{Saved: saved(), Window: window()}
	if r.Intn(10) == 0 {
		report.Fault = number()
	}
	for range r.Intn(4) {
		report.Channels = append(report.Channels, impl.ChannelReport{Fault: number(), Client: end(), Server: end(), ToServer: list(), ToClient: list()})
	}
	return report
}

func TestReportTextOfAnyReport(t *testing.T) {
	t.Parallel()
	r := rand.New(rand.NewSource(606))
	for range 2000 {
		report := anyReport(r)
		checkReportText(t, "any", report, toldFormatReport(report))
	}
}

// The reports of worlds, told by the chapters ahead.
func TestReportTextOfRuns(t *testing.T) {
	t.Parallel()
	for what, w := range memoryWorlds() {
		report := toldRunWorld(w)
		checkReportText(t, what, report, toldFormatReport(report))
	}
}
