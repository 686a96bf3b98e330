package tests

import (
	"cmp"
	"fmt"
	"slices"
	"testing"

	"loop.example/g00004/impl"
)

// WorldFault: each of its seven faults alone, with every part of it by itself, and all of them together. With a fault all
// else of a report is zero.

func TestWorldConstants(t *testing.T) {
	if impl.MaxConnections != 8 {
		t.Errorf("MaxConnections is %d", impl.MaxConnections)
	}
}

func checkWorldFault(t *testing.T, what string, w impl.World, want int64) {
	t.Helper()
	if got := impl.WorldFault(w); got != want || toldWorldFault(w) != want {
		t.Errorf("%s: got %d, want %d, told %d:%s", what, got, want, toldWorldFault(w), connectionsInShort(w.Connections))
	}
	if want == 0 {
		return
	}
	if got := impl.RunWorld(w); !sameWorldReport(got, impl.WorldReport{Fault: want}) {
		t.Errorf("%s: not all else is zero: %s", what, worldInShort(got))
	}
}

// someWorld has nothing wrong, and connections of both kinds.
func someWorld() impl.World {
	return shopWorld(flushed(0, ""), flushed(5, "early"), copyOf(1, 2))
}

func TestWorldFaultOfNothing(t *testing.T) {
	t.Parallel()
	checkWorldFault(t, "some", someWorld(), 0)
	checkWorldFault(t, "no connections", shopWorld(), 0)
	checkWorldFault(t, "nothing at all", impl.World{}, 1)
	checkWorldFault(t, "no server", impl.World{Client: shopClient()}, 2)
	checkWorldFault(t, "no client", impl.World{Server: shopServer()}, 1)
	checkWorldFault(t, "exchanged", worldOf(shopServer(), shopClient()), 1)
	checkWorldFault(t, "two servers", worldOf(shopServer(), shopServer()), 1)
	checkWorldFault(t, "two clients", worldOf(shopClient(), shopClient()), 2)
	checkWorldFault(t, "a ticket is saved", worldOf(backClient(), shopServer()), 0)
}

// Where the flag alone is another, all else that both roles need is there.
func TestWorldFaultOfRoles(t *testing.T) {
	t.Parallel()
	both := shopServer()
	both.Host, both.Roots = shopClient().Host, shopClient().Roots
	other := both
	other.Server = false
	checkWorldFault(t, "the client is a server", worldOf(both, shopServer()), 1)
	checkWorldFault(t, "the server is none", worldOf(shopClient(), other), 2)
	checkWorldFault(t, "a client with a server's things", worldOf(other, both), 3)
	checkWorldFault(t, "a server with a client's things", worldOf(shopClient(), both), 4)
}

// Every fault of a configuration is one of the world; where there is none, what is only for the other role is asked for.
func TestWorldFaultOfConfigs(t *testing.T) {
	t.Parallel()
	seen := map[int64]int{}
	for _, one := range configChanges(t) {
		w := someWorld()
		one.change(&w.Client)
		checkWorldFault(t, one.what+" of the client", w, cmp.Or(ruleOf(one.client, 1), toldWorldFault(w)))
		w = someWorld()
		one.change(&w.Server)
		want := cmp.Or(ruleOf(one.server, 2), toldWorldFault(w))
		checkWorldFault(t, one.what+" of the server", w, want)
		seen[want]++
		w = someWorld()
		one.change(&w.Client)
		one.change(&w.Server)
		checkWorldFault(t, one.what+" of both", w, toldWorldFault(w))
	}
	if seen[0] == 0 || seen[2] == 0 || seen[4] == 0 {
		t.Errorf("the faults of the server were %v", seen)
	}
}

func TestWorldFaultOfAClientsThings(t *testing.T) {
	t.Parallel()
	leaf := shopServer().Certs[0]
	for what, change := range map[string]func(c *impl.EndConfig){
		"Certs":                     func(c *impl.EndConfig) { c.Certs = []impl.Cert{leaf} },
		"Certs with a fault":        func(c *impl.EndConfig) { c.Certs = []impl.Cert{{}} },
		"too many Certs":            func(c *impl.EndConfig) { c.Certs = make([]impl.Cert, 300) },
		"KeySeed":                   func(c *impl.EndConfig) { c.KeySeed = upwards(32) },
		"KeySeed of a byte":         func(c *impl.EndConfig) { c.KeySeed = []byte{0} },
		"KeySeed of many":           func(c *impl.EndConfig) { c.KeySeed = make([]byte, 256) },
		"TicketKey":                 func(c *impl.EndConfig) { c.TicketKey = upwards(32) },
		"TicketKey of a byte":       func(c *impl.EndConfig) { c.TicketKey = []byte{0} },
		"Life":                      func(c *impl.EndConfig) { c.Life = 1 },
		"Life below":                func(c *impl.EndConfig) { c.Life = -1 },
		"Life far above":            func(c *impl.EndConfig) { c.Life = 1 << 32 },
		"EarlyMost":                 func(c *impl.EndConfig) { c.EarlyMost = 1 },
		"EarlyMost below":           func(c *impl.EndConfig) { c.EarlyMost = -1 },
		"EarlyMost far above":       func(c *impl.EndConfig) { c.EarlyMost = 1 << 40 },
		"Width":                     func(c *impl.EndConfig) { c.Window.Width = 1 },
		"Width below":               func(c *impl.EndConfig) { c.Window.Width = -1 },
		"Marks":                     func(c *impl.EndConfig) { c.Window = windowOf(0, 6000) },
		"a mark of nothing":         func(c *impl.EndConfig) { c.Window.Marks = make([]impl.Mark, 1) },
		"Early":                     func(c *impl.EndConfig) { c.Early = []byte("early") },
		"Early of a byte":           func(c *impl.EndConfig) { c.Early = []byte{0} },
		"as many Early as there be": func(c *impl.EndConfig) { c.Early = make([]byte, 4096) },
	} {
		w := someWorld()
		change(&w.Client)
		checkWorldFault(t, what, w, 3)
		w.Connections = nil
		checkWorldFault(t, what+", no connections", w, 3)
	}
	w := someWorld()
	w.Client.Early = make([]byte, 4097)
	checkWorldFault(t, "too many Early", w, 1)
	w = someWorld()
	w.Client.Certs, w.Client.KeySeed, w.Client.TicketKey, w.Client.Early, w.Client.Window.Marks = []impl.Cert{}, []byte{}, []byte{}, []byte{}, []impl.Mark{}
	checkWorldFault(t, "empty lists", w, 0)
	w.Client.Certs, w.Client.KeySeed, w.Client.Early = shopServer().Certs[:0], upwards(32)[:0], upwards(9)[4:4]
	checkWorldFault(t, "empty lists with room behind them", w, 0)
}

func TestWorldFaultOfAServersThings(t *testing.T) {
	t.Parallel()
	for what, change := range map[string]func(c *impl.EndConfig){
		"Host":                 func(c *impl.EndConfig) { c.Host = "shop.example" },
		"Host that is none":    func(c *impl.EndConfig) { c.Host = "-" },
		"Roots":                func(c *impl.EndConfig) { c.Roots = goodCase(2).roots },
		"a root of nothing":    func(c *impl.EndConfig) { c.Roots = make([]impl.Root, 1) },
		"too many Roots":       func(c *impl.EndConfig) { c.Roots = make([]impl.Root, 256) },
		"Saved":                func(c *impl.EndConfig) { c.Saved = savedOf(shopState()) },
		"Saved.Ticket":         func(c *impl.EndConfig) { c.Saved.Ticket = []byte{0} },
		"Saved.Psk":            func(c *impl.EndConfig) { c.Saved.Psk = make([]byte, 32) },
		"Saved.Random":         func(c *impl.EndConfig) { c.Saved.Random = []byte{0} },
		"Saved.Got":            func(c *impl.EndConfig) { c.Saved.Got = 1 },
		"Saved.Got below":      func(c *impl.EndConfig) { c.Saved.Got = -1 },
		"Saved.Life":           func(c *impl.EndConfig) { c.Saved.Life = 1 },
		"Saved.Life below":     func(c *impl.EndConfig) { c.Saved.Life = -1 },
		"Saved.Host":           func(c *impl.EndConfig) { c.Saved.Host = "a" },
		"Saved.Protocol":       func(c *impl.EndConfig) { c.Saved.Protocol = "\x00" },
		"Saved.Early":          func(c *impl.EndConfig) { c.Saved.Early = 1 },
		"Saved.Early far away": func(c *impl.EndConfig) { c.Saved.Early = -1 << 32 },
		"Early":                func(c *impl.EndConfig) { c.Early = []byte("early") },
		"Early of a byte":      func(c *impl.EndConfig) { c.Early = []byte{0} },
		"too many Early":       func(c *impl.EndConfig) { c.Early = make([]byte, 65536) },
	} {
		w := someWorld()
		change(&w.Server)
		checkWorldFault(t, what, w, 4)
		w.Connections = nil
		checkWorldFault(t, what+", no connections", w, 4)
	}
	w := someWorld()
	w.Server.Roots, w.Server.Early, w.Server.Saved = []impl.Root{}, []byte{}, impl.Saved{Ticket: []byte{}, Psk: []byte{}, Random: []byte{}}
	checkWorldFault(t, "empty lists", w, 0)
	w.Server.Roots, w.Server.Early, w.Server.Saved.Ticket = goodCase(2).roots[:0], upwards(9)[:0], upwards(9)[3:3]
	checkWorldFault(t, "empty lists with room behind them", w, 0)
}

// As many connections as there may be, of either kind, and more of them with and without a fault of their own.
func TestWorldFaultOfCounts(t *testing.T) {
	t.Parallel()
	for count, want := range map[int]int64{0: 0, 1: 0, 2: 0, 7: 0, 8: 0, 9: 5, 10: 5, 16: 5, 256: 5, 264: 5} {
		checkWorldFault(t, fmt.Sprint(count, " visits"), shopWorld(slices.Repeat([]impl.Connection{visit(1, "")}, count)...), want)
		if count > 0 {
			copies := slices.Repeat([]impl.Connection{copyOf(0, 1)}, count)
			copies[0] = visit(0, "")
			checkWorldFault(t, fmt.Sprint("a visit and ", count-1, " copies"), shopWorld(copies...), want)
			w := someWorld()
			w.Connections = make([]impl.Connection, count)
			checkWorldFault(t, fmt.Sprint(count, " of nothing"), w, cmp.Or(want, 6))
		}
	}
}

// connectionChange is to a visit, and breaks its rule or does not.
type connectionChange struct {
	what   string
	fits   bool
	change func(c *impl.Connection)
}

func gapAndSeedChanges() []connectionChange {
	var all []connectionChange
	for _, gap := range append(outsideOf(0, lastTime), -1, lastTime+1) {
		all = append(all, connectionChange{fmt.Sprint("the gap ", gap), false, func(c *impl.Connection) { c.Gap = gap }})
	}
	for _, gap := range withinOf(0, lastTime) {
		all = append(all, connectionChange{fmt.Sprint("the gap ", gap), true, func(c *impl.Connection) { c.Gap = gap }})
	}
	for _, size := range []int{1, 16, 31, 33, 64, 256, 288} {
		all = append(all, connectionChange{fmt.Sprint("a seed of ", size), false, func(c *impl.Connection) { c.Seed = upwards(size) }})
	}
	all = append(all, connectionChange{"no seed", false, func(c *impl.Connection) { c.Seed = nil }}, connectionChange{"an empty seed", false, func(c *impl.Connection) { c.Seed = []byte{} }})
	for _, seed := range [][]byte{make([]byte, 32), full(32), shopClient().Seed, shopServer().Seed} {
		all = append(all, connectionChange{"another seed", true, func(c *impl.Connection) { c.Seed = seed }})
	}
	return all
}

func earlyAndStepChanges() []connectionChange {
	var all []connectionChange
	for size, fits := range map[int]bool{0: true, 1: true, 4095: true, 4096: true, 4097: false, 4098: false, 65536: false, 69632: false} {
		all = append(all, connectionChange{fmt.Sprint(size, " bytes early"), fits, func(c *impl.Connection) { c.Early = make([]byte, size) }})
	}
	for count, fits := range map[int]bool{0: true, 1: true, 199: true, 200: true, 201: false, 202: false, 256: false, 400: false} {
		all = append(all, connectionChange{fmt.Sprint(count, " steps"), fits, func(c *impl.Connection) { c.Steps = slices.Repeat([]impl.Step{timeStep(0, 1)}, count) }})
	}
	for _, wrong := range []impl.Step{{}, {Kind: 11}, {Kind: -1}, {Kind: impl.StWrite, End: 2}, {Kind: impl.StFlush, End: 1}, {Kind: impl.StTime, Number: -1},
		{Kind: impl.StUpdate, Number: 2}, {Kind: impl.StDrop, Count: 65537}, {Kind: impl.StFlip, Data: []byte{1, 2}}, {Kind: impl.StClose, Data: []byte{1}}} {
		for _, size := range []int{1, 2, 200} {
			for _, at := range []int{0, size / 2, size - 1} {
				all = append(all, connectionChange{fmt.Sprint("the step ", at, " of ", size), false, func(c *impl.Connection) {
					c.Steps = slices.Repeat([]impl.Step{flushStep()}, size)
					c.Steps[at] = wrong
				}})
			}
		}
	}
	for _, kind := range allStepKinds() {
		all = append(all, connectionChange{fmt.Sprint("a step of kind ", kind), true, func(c *impl.Connection) { c.Steps = []impl.Step{leastStep(kind)} }})
	}
	return all
}

// Each connection is asked, wherever it stands and whoever stands around it.
func TestWorldFaultOfVisits(t *testing.T) {
	t.Parallel()
	for _, one := range append(gapAndSeedChanges(), earlyAndStepChanges()...) {
		for place := range 4 {
			w := shopWorld(visit(0, ""), visit(1, "e"), visit(2, ""), visit(3, "f"))
			one.change(&w.Connections[place])
			want := int64(6)
			if one.fits {
				want = 0
			}
			checkWorldFault(t, fmt.Sprint(one.what, " of visit ", place), w, want)
		}
		w := shopWorld(visit(0, ""), copyOf(0, 0), visit(0, ""), visit(0, ""), copyOf(0, 0), copyOf(2, 0), visit(0, ""), copyOf(3, 0))
		one.change(&w.Connections[6])
		checkWorldFault(t, one.what+" among copies", w, toldWorldFault(w))
	}
}

// A copy has a gap and a seed as every connection has, and no early data and no steps at all.
func TestWorldFaultOfCopies(t *testing.T) {
	t.Parallel()
	ofCopy := func(place int) impl.World {
		list := []impl.Connection{visit(0, ""), visit(1, "e"), visit(2, ""), visit(3, "f")}
		list[place] = copyOf(0, 1)
		return shopWorld(list...)
	}
	for place := 1; place < 4; place++ {
		checkWorldFault(t, "a copy", ofCopy(place), 0)
		for _, one := range gapAndSeedChanges() {
			w := ofCopy(place)
			one.change(&w.Connections[place])
			want := int64(6)
			if one.fits {
				want = 0
			}
			checkWorldFault(t, fmt.Sprint(one.what, " of copy ", place), w, want)
		}
		for _, size := range []int{1, 5, 4096, 4097} {
			w := ofCopy(place)
			w.Connections[place].Early = make([]byte, size)
			checkWorldFault(t, fmt.Sprint("a copy with ", size, " bytes early"), w, 6)
		}
		for _, steps := range [][]impl.Step{{flushStep()}, {timeStep(0, 0)}, {{}}, slices.Repeat([]impl.Step{flushStep()}, 200)} {
			w := ofCopy(place)
			w.Connections[place].Steps = steps
			checkWorldFault(t, fmt.Sprint("a copy with ", len(steps), " steps"), w, 6)
		}
		w := ofCopy(place)
		w.Connections[place].Early, w.Connections[place].Steps = []byte{}, []impl.Step{}
		checkWorldFault(t, "a copy with empty lists", w, 0)
	}
}

// Copied is -1, or the number of an earlier connection that is itself no copy.
func TestWorldFaultOfCopiedNumbers(t *testing.T) {
	t.Parallel()
	base := []impl.Connection{visit(0, ""), copyOf(0, 0), visit(0, ""), copyOf(2, 0), visit(0, ""), visit(0, ""), copyOf(5, 0), visit(0, "")}
	for place := range base {
		for number := int64(-1); number < int64(len(base)); number++ {
			w := shopWorld(base[:place+1]...)
			w.Connections[place].Copied = number
			want := int64(6)
			if number == notCopied || number < int64(place) && !slices.Contains([]int64{1, 3, 6}, number) {
				want = 0
			}
			checkWorldFault(t, fmt.Sprint("connection ", place, " copies ", number), w, want)
		}
		for _, number := range farNumbers() {
			w := shopWorld(base...)
			w.Connections[place].Copied = number
			checkWorldFault(t, fmt.Sprint("connection ", place, " copies ", number), w, 6)
		}
	}
	// One that is copied becomes a copy itself.
	w := shopWorld(visit(0, ""), visit(0, ""), copyOf(1, 0))
	checkWorldFault(t, "a copy", w, 0)
	w.Connections[1].Copied = 0
	checkWorldFault(t, "a copy of a copy", w, 6)
	checkWorldFault(t, "a copy of itself, alone", shopWorld(copyOf(0, 0)), 6)
	checkWorldFault(t, "a copy of a later one", shopWorld(visit(0, ""), copyOf(2, 0), visit(0, "")), 6)
}

// All data of all steps of all connections count together, and nothing else does.
func TestWorldFaultOfData(t *testing.T) {
	t.Parallel()
	whole := make([]byte, 400000)
	forge := func(size int) impl.Step { return impl.Step{Kind: impl.StForge, End: serverEnd, Data: whole[:size]} }
	for _, count := range []int{1, 2, 3, 8} {
		for size, want := range map[int]int64{199999: 0, 200000: 0, 200001: 7, 200008: 7, 262144: 7, 400000: 7} {
			var list []impl.Connection
			part := size / count
			for range count - 1 {
				list = append(list, visit(0, "early", forge(part)))
			}
			list = append(list, visit(0, "early", forge(size-part*(count-1))))
			checkWorldFault(t, fmt.Sprint(size, " bytes in ", count), shopWorld(list...), want)
			slices.Reverse(list)
			checkWorldFault(t, fmt.Sprint(size, " bytes in ", count, ", turned round"), shopWorld(list...), want)
		}
	}
	// As much of it as there may be in each of many is too much, though no channel by itself has a fault.
	checkWorldFault(t, "twice as many", shopWorld(visit(0, "", forge(200000)), visit(0, "", forge(200000))), 7)
	for size, want := range map[int]int64{199999: 0, 200000: 7} {
		checkWorldFault(t, "with a flip", shopWorld(visit(0, "", flipStep(1, 0, 1)), copyOf(0, 0), visit(0, "", forge(size))), want)
		checkWorldFault(t, "with a write", shopWorld(visit(0, "", forge(size)), visit(0, "", writeStep(clientEnd, "x"))), want)
	}
	// What is sent early is none of it, nor what is copied.
	early := visit(0, string(whole[:4096]))
	early.Steps = []impl.Step{forge(100000), forge(100000)}
	w := shopWorld(early, copyOf(0, 0), visit(0, string(whole[:4096])), copyOf(0, 0))
	checkWorldFault(t, "early data beside it", w, 0)
	w.Connections[2].Steps = []impl.Step{forge(1)}
	checkWorldFault(t, "early data beside it, and a byte", w, 7)
}

// Of several faults the one named first is told.
func TestWorldFaultOfSeveral(t *testing.T) {
	t.Parallel()
	breaks := []func(w *impl.World){
		func(w *impl.World) { w.Client.Pad = 257 },
		func(w *impl.World) { w.Server.Life = -1 },
		func(w *impl.World) { w.Client.TicketKey = upwards(32) },
		func(w *impl.World) { w.Server.Host = "shop.example" },
		func(w *impl.World) {
			w.Connections = append(w.Connections, shopWorld(slices.Repeat([]impl.Connection{visit(0, "")}, 6)...).Connections...)
		},
		func(w *impl.World) { w.Connections[2].Copied = 2 },
		func(w *impl.World) {
			w.Connections[0].Steps = append(w.Connections[0].Steps, impl.Step{Kind: impl.StWrite, Data: make([]byte, 200001)})
		},
	}
	for broken := range 1 << len(breaks) {
		w, want := someWorld(), int64(0)
		for i, change := range breaks {
			if broken>>i&1 == 0 {
				continue
			}
			change(&w)
			if want == 0 {
				want = int64(i + 1)
			}
		}
		checkWorldFault(t, fmt.Sprintf("broken %07b", broken), w, want)
	}
}
