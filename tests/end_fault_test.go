package tests

import (
	"bytes"
	"fmt"
	"math/rand"
	"slices"
	"strings"
	"testing"

	"loop.example/g00004/impl"
)

// SavedFault and ConfigFault: each fault alone, in its order, and the bounds of each number.

// savedChange breaks one rule of a saved ticket at the time 5000, or none where rule is 0.
type savedChange struct {
	rule   int64
	what   string
	change func(s *impl.Saved)
}

func savedListChanges() []savedChange {
	var all []savedChange
	for _, n := range []int{0, 401, 402, 656, 1000} {
		all = append(all, savedChange{1, "Ticket", func(s *impl.Saved) { s.Ticket = upwards(n) }})
	}
	for _, n := range []int{1, 2, 255, 256, 399, 400} {
		all = append(all, savedChange{0, "Ticket", func(s *impl.Saved) { s.Ticket = upwards(n) }})
	}
	for _, n := range []int{0, 1, 31, 33, 64, 288} {
		all = append(all, savedChange{2, "Psk", func(s *impl.Saved) { s.Psk = upwards(n) }},
			savedChange{2, "Random", func(s *impl.Saved) { s.Random = upwards(n) }})
	}
	return append(all, savedChange{0, "Psk", func(s *impl.Saved) { s.Psk = make([]byte, 32) }},
		savedChange{0, "Random", func(s *impl.Saved) { s.Random = full(32) }})
}

func savedNumberChanges(rule int64, least int64, most int64, put func(s *impl.Saved, v int64)) []savedChange {
	var all []savedChange
	for _, v := range outsideOf(least, most) {
		all = append(all, savedChange{rule, "a number outside", func(s *impl.Saved) { put(s, v) }})
	}
	for _, v := range insideOfLimits(least, most) {
		all = append(all, savedChange{0, "a number", func(s *impl.Saved) { put(s, v) }})
	}
	return all
}

func savedTextChanges() []savedChange {
	var all []savedChange
	for _, host := range noHosts() {
		all = append(all, savedChange{5, "Host", func(s *impl.Saved) { s.Host = host }})
	}
	for _, host := range stateHosts() {
		all = append(all, savedChange{0, "Host", func(s *impl.Saved) { s.Host = host }})
	}
	for _, n := range []int{33, 34, 256, 288} {
		all = append(all, savedChange{6, "Protocol", func(s *impl.Saved) { s.Protocol = strings.Repeat("p", n) }})
	}
	for _, protocol := range stateProtocols() {
		all = append(all, savedChange{0, "Protocol", func(s *impl.Saved) { s.Protocol = protocol }})
	}
	return all
}

func savedChanges() []savedChange {
	return slices.Concat(savedListChanges(), savedTextChanges(),
		savedNumberChanges(3, 0, 5000, func(s *impl.Saved, v int64) { s.Got = v }),
		savedNumberChanges(4, 1, lastLife, func(s *impl.Saved, v int64) { s.Life = v }),
		savedNumberChanges(7, 0, lastAge, func(s *impl.Saved, v int64) { s.Early = v }))
}

func checkSavedFault(t *testing.T, what string, s impl.Saved, now int64, want int64) {
	t.Helper()
	if got := impl.SavedFault(s, now); got != want || toldSaved(s, now) != want {
		t.Errorf("%s at %d: got %d, want %d, told %d: %v", what, now, got, want, toldSaved(s, now), s)
	}
}

func TestSavedFaultAlone(t *testing.T) {
	for _, one := range savedChanges() {
		s := savedOf(shopState())
		one.change(&s)
		checkSavedFault(t, one.what, s, 5000, one.rule)
	}
}

// Of several rules that are broken the first is told.
func TestSavedFaultOfSeveral(t *testing.T) {
	r := rand.New(rand.NewSource(391))
	all := savedChanges()
	for range 3000 {
		s := savedOf(shopState())
		first := int64(0)
		for _, at := range r.Perm(7)[:2+r.Intn(4)] {
			rule := int64(at + 1)
			ofRule := slices.DeleteFunc(slices.Clone(all), func(one savedChange) bool { return one.rule != rule })
			ofRule[r.Intn(len(ofRule))].change(&s)
			if first == 0 || rule < first {
				first = rule
			}
		}
		checkSavedFault(t, "several", s, 5000, first)
	}
}

// Nothing saved is no fault at any time; anything else without a ticket is one.
func TestSavedFaultOfNothing(t *testing.T) {
	for _, now := range append(strangeNumbers(), 0, -1, 5000, lastTime, lastTime+1) {
		checkSavedFault(t, "nothing", impl.Saved{}, now, 0)
		checkSavedFault(t, "nothing, but not nil", impl.Saved{Ticket: []byte{}, Psk: []byte{}, Random: []byte{}}, now, 0)
	}
	for _, s := range []impl.Saved{{Psk: []byte{0}}, {Random: make([]byte, 32)}, {Got: 1}, {Got: -1}, {Life: 1}, {Life: -1}, {Host: "a"}, {Host: "-"},
		{Protocol: "p"}, {Early: 1}, {Early: -1}} {
		checkSavedFault(t, "no ticket", s, 5000, 1)
	}
	checkSavedFault(t, "a ticket alone", impl.Saved{Ticket: []byte{0}}, 5000, 2)
}

// The time that it was got is held against now, whatever that is.
func TestSavedFaultTimes(t *testing.T) {
	s := savedOf(shopState())
	for _, now := range append(strangeNumbers(), 0, 1, -1, lastTime, lastTime+1) {
		for _, got := range append(strangeNumbers(), now, now/2, 0, 1, -1) {
			want := int64(0)
			if got < 0 || got > now {
				want = 3
			}
			s.Got = got
			checkSavedFault(t, "got", s, now, want)
		}
	}
}

// configChange breaks one rule, of a client, of a server, or of both.
type configChange struct {
	client int64
	server int64
	what   string
	change func(c *impl.EndConfig)
}

func configNumberChanges(client int64, server int64, least int64, most int64, put func(c *impl.EndConfig, v int64)) []configChange {
	var all []configChange
	for _, v := range outsideOf(least, most) {
		all = append(all, configChange{client, server, "a number outside", func(c *impl.EndConfig) { put(c, v) }})
	}
	for _, v := range insideOfLimits(least, most) {
		all = append(all, configChange{0, 0, "a number", func(c *impl.EndConfig) { put(c, v) }})
	}
	return all
}

func configListChanges(client int64, server int64, put func(c *impl.EndConfig, list []byte)) []configChange {
	var all []configChange
	for _, n := range []int{0, 1, 31, 33, 64, 288} {
		all = append(all, configChange{client, server, "a list of another size", func(c *impl.EndConfig) { put(c, upwards(n)) }})
	}
	return append(all, configChange{0, 0, "another list", func(c *impl.EndConfig) { put(c, full(32)) }})
}

func configProtocolChanges() []configChange {
	var all []configChange
	long := strings.Repeat("p", 32)
	for _, wrong := range [][]string{{""}, {"a", ""}, {"", "a"}, {"a", "a"}, {"a", "b", "a"}, {long + "p"}, {"a", long + "p"}, longProtocols(9), make([]string, 9), {long, long}} {
		all = append(all, configChange{3, 3, "Protocols", func(c *impl.EndConfig) { c.Protocols = wrong }})
	}
	for _, good := range [][]string{nil, {}, {"a"}, {"a", "A"}, {"a", "aa"}, {long}, {"\x00"}, {" ", "\xff"}, longProtocols(8)} {
		all = append(all, configChange{0, 0, "Protocols", func(c *impl.EndConfig) { c.Protocols = good }})
	}
	return all
}

func clientChanges() []configChange {
	var all []configChange
	for _, host := range noHosts() {
		all = append(all, configChange{5, 0, "Host", func(c *impl.EndConfig) { c.Host = host }})
	}
	for _, host := range stateHosts() {
		all = append(all, configChange{0, 0, "Host", func(c *impl.EndConfig) { c.Host = host }})
	}
	for count, rule := range map[int]int64{0: 0, 1: 0, 15: 0, 16: 0, 17: 6, 18: 6, 256: 6, 272: 6} {
		all = append(all, configChange{rule, 0, "Roots", func(c *impl.EndConfig) { c.Roots = make([]impl.Root, count) }})
	}
	for _, one := range savedChanges() {
		rule := int64(0)
		if one.rule != 0 {
			rule = 7
		}
		// The time is another one than that of the rules above where this change meets one of those.
		all = append(all, configChange{rule, 0, "Saved, " + one.what, func(c *impl.EndConfig) {
			c.Saved = savedOf(shopState())
			c.Now = 5000
			one.change(&c.Saved)
		}})
	}
	for size, rule := range map[int]int64{0: 0, 1: 0, 4095: 0, 4096: 0, 4097: 8, 4098: 8, 65536: 8, 70000: 8} {
		all = append(all, configChange{rule, 0, "Early", func(c *impl.EndConfig) { c.Early = make([]byte, size) }})
	}
	return all
}

// certOfSize is well-formed, and its bytes are so many; the sizes that there may be begin with that of a leaf.
func certOfSize(t *testing.T, size int) impl.Cert {
	t.Helper()
	c := goodCase(2).chain[1]
	c.Subject, c.Excluded, c.Permitted = "S", nil, nil
	for first := 'a'; len(toldCertForm(c)) < size; first++ {
		missing := size - len(toldCertForm(c))
		name := string(first)
		for len(name)+2 < min(missing, 126) {
			name += "x"
			if len(name)%60 == 0 {
				name += ".y"
			}
		}
		c.Excluded = append(c.Excluded, name)
	}
	for extra := 1; len(toldCertForm(c)) != size && extra < 64; extra++ {
		c.Subject = strings.Repeat("S", extra)
		if over := len(toldCertForm(c)) - size; over > 0 && over < len(c.Excluded[0])-2 {
			c.Excluded[0] = c.Excluded[0][:len(c.Excluded[0])-over]
		}
	}
	if impl.CertFault(c) != 0 || len(impl.EncodeCert(c)) != size {
		t.Fatalf("a certificate of %d bytes, with the fault %d, not of %d", len(impl.EncodeCert(c)), impl.CertFault(c), size)
	}
	return c
}

func serverChanges(t *testing.T) []configChange {
	t.Helper()
	leaf := goodCase(1).chain[0]
	unsigned := cloneCert(leaf)
	unsigned.Signature = nil
	serial := cloneCert(leaf)
	serial.Serial = []byte{0}
	var all []configChange
	for _, wrong := range [][]impl.Cert{nil, {}, {leaf, leaf, leaf, leaf, leaf}, make([]impl.Cert, 260), {{}}, {unsigned}, {leaf, unsigned}, {leaf, leaf, leaf, serial},
		{certOfSize(t, 2001)}, {leaf, certOfSize(t, 2002)}, {leaf, certOfSize(t, 2100), leaf}} {
		all = append(all, configChange{0, 9, "Certs", func(c *impl.EndConfig) { c.Certs = wrong }})
	}
	for _, good := range [][]impl.Cert{{leaf}, {leaf, leaf, leaf, leaf}, {certOfSize(t, 2000)}, {certOfSize(t, 1999), certOfSize(t, 2000)}} {
		all = append(all, configChange{0, 0, "Certs", func(c *impl.EndConfig) { c.Certs = good }})
	}
	window := randomWindow(rand.New(rand.NewSource(393)), 5, 100)
	for _, one := range windowChanges() {
		rule := int64(0)
		if one.rule != 0 {
			rule = 12
		}
		all = append(all, configChange{0, rule, "Window, " + one.what, func(c *impl.EndConfig) { c.Window = one.of(window) }})
	}
	return slices.Concat(all,
		configListChanges(0, 10, func(c *impl.EndConfig, list []byte) { c.KeySeed = list }),
		configListChanges(0, 10, func(c *impl.EndConfig, list []byte) { c.TicketKey = list }),
		configNumberChanges(0, 11, 0, lastLife, func(c *impl.EndConfig, v int64) { c.Life = v }),
		configNumberChanges(0, 11, 0, lastAge, func(c *impl.EndConfig, v int64) { c.EarlyMost = v }))
}

func configChanges(t *testing.T) []configChange {
	t.Helper()
	return slices.Concat(
		configListChanges(1, 1, func(c *impl.EndConfig, list []byte) { c.Seed = list }),
		configNumberChanges(2, 2, 0, lastTime, func(c *impl.EndConfig, v int64) { c.Now = v }),
		configProtocolChanges(),
		configNumberChanges(4, 4, 0, 256, func(c *impl.EndConfig, v int64) { c.Pad = v }),
		clientChanges(), serverChanges(t))
}

func configInShort(c impl.EndConfig) string {
	return fmt.Sprintf("server %v, %d bytes, now %d, %q, pad %d, host %q, %d roots, saved %v, %d early, %d certs, %d and %d bytes, life %d, most %d, %s",
		c.Server, len(c.Seed), c.Now, c.Protocols, c.Pad, c.Host, len(c.Roots), c.Saved, len(c.Early), len(c.Certs), len(c.KeySeed), len(c.TicketKey), c.Life, c.EarlyMost, windowInShort(c.Window))
}

// checkConfigFault asks also for the report, in which all else is zero if there is a fault.
func checkConfigFault(t *testing.T, what string, c impl.EndConfig, want int64) {
	t.Helper()
	if got := impl.ConfigFault(c); got != want || toldConfig(c) != want {
		t.Errorf("%s: got %d, want %d, told %d: %s", what, got, want, toldConfig(c), configInShort(c))
	}
	if want == 0 {
		return
	}
	for _, events := range [][]impl.Event{nil, {waiting(1)}, make([]impl.Event, 401)} {
		if got := impl.RunEnd(c, events); !sameReport(got, impl.EndReport{Fault: want}) {
			t.Errorf("%s: %s", what, reportInShort(got))
		}
	}
}

func TestConfigFaultAlone(t *testing.T) {
	for _, one := range configChanges(t) {
		client, server := shopClient(), shopServer()
		one.change(&client)
		one.change(&server)
		checkConfigFault(t, one.what, client, one.client)
		checkConfigFault(t, one.what, server, one.server)
	}
}

// Of several faults the first is told, and what is only for the other role plays no part.
func TestConfigFaultOfSeveral(t *testing.T) {
	r := rand.New(rand.NewSource(392))
	all := slices.DeleteFunc(configChanges(t), func(one configChange) bool { return one.client == 0 && one.server == 0 })
	byRule := make([][]configChange, 13)
	for _, one := range all {
		rule := max(one.client, one.server)
		byRule[rule] = append(byRule[rule], one)
	}
	for range 1500 {
		client, server := shopClient(), shopServer()
		rules := r.Perm(12)[:2+r.Intn(6)]
		// A saved ticket brings the time that it needs; where time is to be wrong, that comes behind it.
		slices.Sort(rules)
		slices.Reverse(rules)
		firsts := [2]int64{}
		for _, at := range rules {
			one := byRule[at+1][r.Intn(len(byRule[at+1]))]
			one.change(&client)
			one.change(&server)
			for i, rule := range []int64{one.client, one.server} {
				if rule != 0 {
					firsts[i] = rule
				}
			}
		}
		checkConfigFault(t, "several, client", client, firsts[0])
		checkConfigFault(t, "several, server", server, firsts[1])
	}
}

// A client may have anything at all for a server, and the other way round: not a byte of what they do is another.
func TestConfigOfTheOtherRole(t *testing.T) {
	client, server := shopClient(), shopServer()
	p := playClient(client, server).back().open()
	toClient, toServer := bytesEvent(p.other.r.Sent), bytesEvent(p.subject.r.Sent)
	odd := client
	odd.Certs, odd.KeySeed, odd.TicketKey, odd.Life, odd.EarlyMost = []impl.Cert{{}}, []byte{1}, upwards(5), -9, 1<<40
	odd.Window = impl.Window{Width: -1, Marks: []impl.Mark{{Until: -3}}}
	if got := impl.RunEnd(odd, []impl.Event{toClient}); !sameReport(got, impl.RunEnd(client, []impl.Event{toClient})) || got.Fault != 0 {
		t.Errorf("client: %s", reportInShort(got))
	}
	odd = server
	odd.Host, odd.Roots, odd.Early = "-", make([]impl.Root, 40), bytes.Repeat([]byte{1}, 5000)
	odd.Saved = impl.Saved{Host: "x", Early: -1}
	if got := impl.RunEnd(odd, []impl.Event{toServer}); !sameReport(got, impl.RunEnd(server, []impl.Event{toServer})) || got.Fault != 0 {
		t.Errorf("server: %s", reportInShort(got))
	}
}

func TestEndConstants(t *testing.T) {
	got := []int64{impl.MaxEvents, impl.MaxFed, impl.MaxEarly, impl.MaxSkipped, impl.EvBytes, impl.EvWrite, impl.EvClose, impl.EvUpdate, impl.EvTime,
		impl.PhaseWaiting, impl.PhaseOpen, impl.PhaseClosed, impl.PhaseFailed, impl.AlertNone, impl.AlertClose, impl.AlertUnexpected,
		impl.AlertBadRecord, impl.AlertOverflow, impl.AlertBadCert, impl.AlertExpired, impl.AlertIllegal, impl.AlertUnknownRoot,
		impl.AlertDecode, impl.AlertDecrypt, impl.AlertVersion, impl.AlertName, impl.AlertProtocol}
	want := []int64{400, 200000, 4096, 8192, 1, 2, 3, 4, 5, 0, 1, 2, 3, -1, 0, 10, 20, 22, 42, 45, 47, 48, 50, 51, 70, 112, 120}
	if !slices.Equal(got, want) {
		t.Errorf("got %v, want %v", got, want)
	}
}
