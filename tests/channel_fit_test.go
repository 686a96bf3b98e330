package tests

import (
	"bytes"
	"fmt"
	"math/rand"
	"slices"
	"strings"
	"testing"

	"loop.example/g00004/impl"
)

// Promises 27 and 28: pairs that fit, and pairs of which something does not, over a network that only delivers.

// chainPair are a client and a server that a chain brings together.
func chainPair(c chainCase) (impl.EndConfig, impl.EndConfig) {
	client := shopClient()
	client.Host, client.Now, client.Roots = c.w.Host, c.w.Now, c.roots
	return client, shopServerOf(c)
}

func fitProtocols(r *rand.Rand) ([]string, []string) {
	all := []string{"a", "b", "h2", "\x00", strings.Repeat("p", 32)}
	switch r.Intn(4) {
	case 0:
		return all[:r.Intn(6)], nil
	case 1:
		return nil, all[:r.Intn(6)]
	}
	common := r.Intn(len(all))
	client, server := []string{all[common]}, []string{all[common]}
	for i, protocol := range all {
		if i != common && r.Intn(2) == 0 {
			client = append(client, protocol)
		}
		if i != common && r.Intn(2) == 0 {
			server = append(server, protocol)
		}
	}
	r.Shuffle(len(client), func(i int, j int) { client[i], client[j] = client[j], client[i] })
	r.Shuffle(len(server), func(i int, j int) { server[i], server[j] = server[j], server[i] })
	return client, server
}

// fitPair are a client without a ticket and a server that fit, whatever is asked of them.
func fitPair(r *rand.Rand) (impl.EndConfig, impl.EndConfig) {
	chain := goodCase(1 + r.Intn(4))
	client, server := chainPair(chain)
	client.Host = []string{"www.shop.example", "shop.example", "x-1.shop.example"}[r.Intn(3)]
	client.Now = []int64{1000, 1001, 5000, 8999, 9000, 1000 + r.Int63n(8001)}[r.Intn(6)]
	client.Roots = append(manyRoots(r.Intn(15)), chain.roots...)
	r.Shuffle(len(client.Roots), func(i int, j int) { client.Roots[i], client.Roots[j] = client.Roots[j], client.Roots[i] })
	client.Seed, server.Seed, server.TicketKey = randomList(r, 32), randomList(r, 32), randomList(r, 32)
	client.Pad, server.Pad = []int64{0, 1, 255, 256}[r.Intn(4)], []int64{0, 1, 255, 256}[r.Intn(4)]
	client.Protocols, server.Protocols = fitProtocols(r)
	client.Early = randomList(r, r.Intn(50))
	server.Now = []int64{0, 5000, lastTime}[r.Intn(3)]
	server.Life = []int64{0, 1, 500, lastLife}[r.Intn(4)]
	server.EarlyMost = []int64{0, 1, lastAge}[r.Intn(3)]
	server.Window = randomWindow(r, r.Intn(65), 5000)
	return client, server
}

// delivering are steps that bring what is on the ways in any pieces.
func delivering(r *rand.Rand, count int) []impl.Step {
	var steps []impl.Step
	for range count {
		steps = append(steps, deliverStep(r.Int63n(2), []int64{0, 1, 3, 100, 1000, 65536}[r.Intn(6)]))
	}
	return steps
}

// talking are steps of two users that are open, and of a network that delivers now and then.
func talking(r *rand.Rand, count int) []impl.Step {
	var steps []impl.Step
	for range count {
		end := r.Int63n(2)
		switch r.Intn(6) {
		case 0, 1:
			size := []int{0, 1, 5, 2047, 2048, 2049, 5000}[r.Intn(7)]
			steps = append(steps, impl.Step{Kind: impl.StWrite, End: end, Data: randomList(r, size)})
		case 2:
			steps = append(steps, updateStep(end, r.Int63n(2)))
		case 3:
			steps = append(steps, timeStep(end, r.Int63n(100000)))
		default:
			steps = append(steps, delivering(r, 1)...)
		}
	}
	return steps
}

// checkTalk asks for two ends that are open, agree, and have read all that was written.
func checkTalk(t *testing.T, what string, client impl.EndConfig, server impl.EndConfig, steps []impl.Step, phase int64) {
	t.Helper()
	r := checkHonest(t, what, client, server, steps...)
	if r.Client.Phase != phase || r.Server.Phase != phase || impl.Agreement(r) != impl.AgreeBoth {
		t.Errorf("%s:%s\nthe agreement is %d: %s", what, stepsInShort(steps), impl.Agreement(r), channelInShort(r))
	}
	if slices.Contains(r.Answers, 1) || len(r.ToServer)+len(r.ToClient) != 0 {
		t.Errorf("%s:%s\nrefused, or left on the ways: %s", what, stepsInShort(steps), channelInShort(r))
	}
	checkList(t, what+": read by the server", r.Server.Read, written(clientEnd, client, steps, r))
	checkList(t, what+": read by the client", r.Client.Read, written(serverEnd, client, steps, r))
	if protocol, _ := protocolOf(server.Protocols, client.Protocols); r.Client.Protocol != protocol || r.Client.Resumed || r.Server.EarlyTaken {
		t.Errorf("%s: %s", what, channelInShort(r))
	}
	if (server.Life != 0) != (len(r.Client.Saved.Ticket) > 0) {
		t.Errorf("%s: a ticket of %d bytes with the life %d", what, len(r.Client.Saved.Ticket), server.Life)
	}
}

func checkFits(t *testing.T, r *rand.Rand, what string, client impl.EndConfig, server impl.EndConfig) {
	t.Helper()
	steps := append(delivering(r, r.Intn(20)), flushStep())
	checkTalk(t, what+", opened", client, server, steps, impl.PhaseOpen)
	steps = append(append(steps, talking(r, 25)...), flushStep())
	checkTalk(t, what+", written", client, server, steps, impl.PhaseOpen)
	first := r.Int63n(2)
	steps = append(steps, closeStep(first))
	if r.Intn(2) == 0 {
		// Who has not closed goes on, and is still read.
		steps = append(steps, flushStep(), writeStep(1-first, "a last word"))
	}
	steps = append(append(steps, delivering(r, r.Intn(4))...), closeStep(1-first), flushStep())
	checkTalk(t, what+", closed", client, server, steps, impl.PhaseClosed)
}

func TestPromise27(t *testing.T) {
	t.Parallel()
	for seed := range int64(8) {
		t.Run(fmt.Sprint(seed), func(t *testing.T) {
			t.Parallel()
			r := rand.New(rand.NewSource(500 + seed))
			for range 12 {
				client, server := fitPair(r)
				checkFits(t, r, "a pair", client, server)
			}
		})
	}
}

func TestPromise27OfGreatCertificates(t *testing.T) {
	t.Parallel()
	r := rand.New(rand.NewSource(510))
	client, server := chainPair(greatChain())
	for range 3 {
		checkFits(t, r, "great certificates", client, server)
	}
}

// Both close at once, each while the other's bytes are still on the way.
func TestPromise27ClosedAtOnce(t *testing.T) {
	t.Parallel()
	steps := openedBy(writeStep(clientEnd, "one"), writeStep(serverEnd, "two"), updateStep(clientEnd, 1), closeStep(clientEnd), closeStep(serverEnd), flushStep())
	checkTalk(t, "closed at once", shopClient(), shopServer(), steps, impl.PhaseClosed)
}

// checkUnfit asks that one end has the alert, and that the other one was told it.
func checkUnfit(t *testing.T, what string, c *couple, isServer bool, alert int64, steps ...impl.Step) {
	t.Helper()
	r := checkHonest(t, what, c.client, c.server, steps...)
	seen, other := r.Client, r.Server
	if isServer {
		seen, other = other, seen
	}
	if seen.Alert != alert || seen.PeerAlert != noAlert || seen.Phase != impl.PhaseFailed {
		t.Errorf("%s: %s", what, reportInShort(seen))
	}
	if other.PeerAlert != alert || other.Alert != noAlert || other.Phase != impl.PhaseFailed {
		t.Errorf("%s: the other end: %s", what, reportInShort(other))
	}
	if impl.Agreement(r) != impl.AgreeEnded || len(r.Server.Transcript)+len(r.Client.Transcript) != 0 {
		t.Errorf("%s: the agreement is %d: %s", what, impl.Agreement(r), channelInShort(r))
	}
}

func TestPromise28(t *testing.T) {
	t.Parallel()
	r := rand.New(rand.NewSource(511))
	for what, one := range unfits() {
		c := &couple{client: shopClient(), server: shopServer()}
		one.change(c)
		checkUnfit(t, what, c, one.server, one.alert, flushStep())
		checkUnfit(t, what+", in pieces", c, one.server, one.alert, append(delivering(r, 30), flushStep())...)
	}
}

// alertOf is the alert that a fault of a chain has.
func alertOf(code int64) int64 {
	switch code {
	case 3:
		return impl.AlertExpired
	case 5:
		return impl.AlertUnknownRoot
	case 9:
		return impl.AlertName
	}
	return impl.AlertBadCert
}

// Each rule of chapter 12 that a server's certificates and a client's roots can break.
func TestPromise28EachRuleOfAChain(t *testing.T) {
	t.Parallel()
	for count := 1; count <= 4; count++ {
		t.Run(fmt.Sprint(count), func(t *testing.T) {
			t.Parallel()
			base := goodCase(count)
			seen := map[int64]int{}
			for _, one := range chainChanges(base) {
				broken := base.with(one)
				broken.w.Use = impl.UseServer
				if len(broken.chain) == 0 {
					continue
				}
				client, server := chainPair(broken)
				if impl.ConfigFault(client)+impl.ConfigFault(server) != 0 || seen[one.rule] > 12 {
					continue
				}
				code := toldChain(broken.chain, broken.roots, broken.w).Code
				if code == 0 {
					continue
				}
				// Where no host fits, the server sees it ahead of the client.
				checkUnfit(t, fmt.Sprint("rule ", code, " of ", count), &couple{client: client, server: server}, code == 9, alertOf(code), flushStep())
				seen[one.rule]++
			}
			// The first two are looked for in the configurations.
			for _, rule := range rulesOf(count)[2:] {
				if seen[rule] == 0 {
					t.Errorf("no pair breaks rule %d", rule)
				}
			}
		})
	}
}

// Where several things do not fit, the one that comes first is seen.
func TestPromise28OfSeveral(t *testing.T) {
	t.Parallel()
	all := []unfit{
		{true, impl.AlertName, func(c *couple) { c.client.Host = "other.example" }},
		{true, impl.AlertProtocol, func(c *couple) { c.client.Protocols, c.server.Protocols = []string{"a", "b"}, []string{"B", "c"} }},
		{false, impl.AlertExpired, func(c *couple) { c.client.Now = 9001 }},
		{false, impl.AlertUnknownRoot, func(c *couple) { c.client.Roots = c.client.Roots[:1] }},
		{false, impl.AlertBadCert, func(c *couple) { c.server.Certs[1].Signature = full(64) }},
		{false, impl.AlertDecrypt, func(c *couple) { c.server.KeySeed = seedNumber(50) }},
	}
	for broken := 1; broken < 64; broken++ {
		c := &couple{client: shopClient(), server: shopServer()}
		var first *unfit
		for i, one := range all {
			if broken>>i&1 == 1 {
				one.change(c)
				if first == nil {
					first = &all[i]
				}
			}
		}
		checkUnfit(t, fmt.Sprintf("broken %06b", broken), c, first.server, first.alert, flushStep())
	}
}

// Protocols of one end alone are no misfit, and of those in common the server's first is taken.
func TestChannelProtocols(t *testing.T) {
	t.Parallel()
	for _, one := range []struct {
		client, server []string
		want           string
	}{
		{[]string{"x", "y"}, []string{"z", "y", "x"}, "y"}, {[]string{"x", "y"}, []string{"x"}, "x"}, {[]string{"a"}, nil, ""}, {nil, []string{"a"}, ""}, {nil, nil, ""},
	} {
		client, server := shopClient(), shopServer()
		client.Protocols, server.Protocols = one.client, one.server
		r := checkHonest(t, "protocols", client, server, flushStep())
		if r.Client.Protocol != one.want || r.Server.Protocol != one.want || r.Client.Saved.Protocol != one.want || impl.Agreement(r) != impl.AgreeBoth {
			t.Errorf("%q and %q: %s", one.client, one.server, channelInShort(r))
		}
	}
}

// What an end has sent behind its alert is nothing, and no order is taken any more.
func TestChannelOrdersWhereNothingFits(t *testing.T) {
	t.Parallel()
	client := shopClient()
	client.Roots = nil
	steps := []impl.Step{flushStep(), writeStep(clientEnd, "x"), writeStep(serverEnd, "y"), closeStep(clientEnd), closeStep(serverEnd), flushStep()}
	r := checkHonest(t, "orders", client, shopServer(), steps...)
	checkAnswers(t, "orders", r, 0, 1, 1, 1, 1, 0)
	opened := checkHonest(t, "orders", client, shopServer(), steps[0])
	if !bytes.Equal(r.Client.Sent, opened.Client.Sent) || !bytes.Equal(r.Server.Sent, opened.Server.Sent) {
		t.Errorf("orders: %s", channelInShort(r))
	}
}
