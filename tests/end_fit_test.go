package tests

import (
	"testing"

	"loop.example/g00004/impl"
)

// Two ends of the program that speak with each other over a network that only delivers.

// couple are two ends with all events that came to them.
type couple struct {
	client, server             impl.EndConfig
	clientEvents, serverEvents []impl.Event
	toClient, toServer         int
}

func (c *couple) reports() (impl.EndReport, impl.EndReport) {
	return impl.RunEnd(c.client, c.clientEvents), impl.RunEnd(c.server, c.serverEvents)
}

// flush brings all that was sent, to the server first, until nothing more is sent.
func (c *couple) flush() *couple {
	for range 8 {
		client, _ := c.reports()
		c.serverEvents = append(c.serverEvents, bytesEvent(client.Sent[c.toServer:]))
		c.toServer = len(client.Sent)
		_, server := c.reports()
		c.clientEvents = append(c.clientEvents, bytesEvent(server.Sent[c.toClient:]))
		c.toClient = len(server.Sent)
	}
	return c
}

func agree(client impl.EndReport, server impl.EndReport) bool {
	return len(client.Transcript) == 32 && string(client.Transcript) == string(server.Transcript) && string(client.Exporter) == string(server.Exporter) &&
		client.Protocol == server.Protocol && client.Resumed == server.Resumed && client.EarlyTaken == server.EarlyTaken
}

func TestTwoThatFit(t *testing.T) {
	t.Parallel()
	for _, change := range []func(c *couple){
		func(c *couple) {},
		func(c *couple) { c.client.Pad, c.server.Pad = 256, 1 },
		func(c *couple) { c.client.Protocols, c.server.Protocols = []string{"a", "b"}, []string{"c", "b"} },
		func(c *couple) { c.server.Life = 0 },
		func(c *couple) { c.client = backClient() },
		func(c *couple) { c.client = earlyClient() },
		func(c *couple) { c.client, c.server.EarlyMost = earlyClient(), 0 },
		func(c *couple) { c.client, c.server.TicketKey = earlyClient(), upwards(32) },
	} {
		c := &couple{client: shopClient(), server: shopServer()}
		change(c)
		client, server := c.flush().reports()
		if client.Phase != impl.PhaseOpen || server.Phase != impl.PhaseOpen || !agree(client, server) {
			t.Errorf("opened: %s\nand %s", reportInShort(client), reportInShort(server))
		}
		early := ""
		if server.EarlyTaken {
			early = string(c.client.Early)
		}
		c.clientEvents = append(c.clientEvents, writing("question"), updating(1))
		c.serverEvents = append(c.serverEvents, writing("answer"), updating(0), writing(" and more"))
		client, server = c.flush().reports()
		if string(client.Read) != "answer and more" || string(server.Read) != early+"question" || !agree(client, server) {
			t.Errorf("written: %s\nand %s", reportInShort(client), reportInShort(server))
		}
		c.clientEvents, c.serverEvents = append(c.clientEvents, closing()), append(c.serverEvents, closing())
		client, server = c.flush().reports()
		if client.Phase != impl.PhaseClosed || server.Phase != impl.PhaseClosed {
			t.Errorf("closed: %s\nand %s", reportInShort(client), reportInShort(server))
		}
	}
}

// unfit is one thing by which two do not fit: which of them sees it, and the alert that it has then.
type unfit struct {
	server bool
	alert  int64
	change func(c *couple)
}

func unfits() map[string]unfit {
	chained := func(change func(c *chainCase)) func(c *couple) {
		return func(c *couple) {
			chain := goodCase(2)
			change(&chain)
			chain = chain.signed()
			c.server.Certs, c.client.Roots = chain.chain, chain.roots
		}
	}
	return map[string]unfit{
		"another host": {true, impl.AlertName, func(c *couple) { c.client.Host = "www.other.example" }},
		"no protocol":  {true, impl.AlertProtocol, func(c *couple) { c.client.Protocols, c.server.Protocols = []string{"a"}, []string{"b"} }},
		"no protocol, host": {true, impl.AlertName, func(c *couple) {
			c.client.Host, c.client.Protocols, c.server.Protocols = "a", []string{"a"}, []string{"b"}
		}},
		"too early":         {false, impl.AlertExpired, func(c *couple) { c.client.Now = 999 }},
		"too late":          {false, impl.AlertExpired, func(c *couple) { c.client.Now = 9001 }},
		"no root":           {false, impl.AlertUnknownRoot, func(c *couple) { c.client.Roots = nil }},
		"another root":      {false, impl.AlertBadCert, func(c *couple) { c.client.Roots[1].Key = upwards(32) }},
		"another seed":      {false, impl.AlertDecrypt, func(c *couple) { c.server.KeySeed = upwards(32) }},
		"another issuer":    {false, impl.AlertBadCert, chained(func(c *chainCase) { c.chain[1].Subject = "Nobody" })},
		"not for servers":   {false, impl.AlertBadCert, chained(func(c *chainCase) { c.chain[0].Uses = 2 })},
		"outside the areas": {false, impl.AlertBadCert, chained(func(c *chainCase) { c.chain[1].Permitted = []string{"local"} })},
		"expired, and early": {false, impl.AlertExpired, func(c *couple) {
			c.client = earlyClient()
			c.client.Now = 9001
			c.client.Saved.Life = 9000
			c.server.TicketKey = upwards(32)
		}},
		"no root, and early": {false, impl.AlertUnknownRoot, func(c *couple) { c.client = earlyClient(); c.client.Roots = nil; c.server.TicketKey = upwards(32) }},
		"another psk":        {true, impl.AlertDecrypt, func(c *couple) { c.client = earlyClient(); c.client.Saved.Psk = upwards(32) }},
		// The server has taken the early data, and reads the alert with their secret.
		"another protocol of the ticket": {false, impl.AlertIllegal, func(c *couple) {
			c.client = earlyClient()
			c.client.Saved.Protocol = "h2"
		}},
	}
}

// Where two do not fit, one of them has the alert, and the other one gets it.
func TestTwoThatDoNotFit(t *testing.T) {
	t.Parallel()
	for what, one := range unfits() {
		c := &couple{client: shopClient(), server: shopServer()}
		one.change(c)
		client, server := c.flush().reports()
		seen, other := client, server
		if one.server {
			seen, other = server, client
		}
		if seen.Alert != one.alert || seen.PeerAlert != noAlert || seen.Phase != impl.PhaseFailed {
			t.Errorf("%s: %s", what, reportInShort(seen))
		}
		if other.PeerAlert != one.alert || other.Alert != noAlert || other.Phase != impl.PhaseFailed {
			t.Errorf("%s: the other end: %s", what, reportInShort(other))
		}
	}
}

// Time and again a client comes back with what it has saved, and is resumed as long as the ticket lives.
func TestComingBack(t *testing.T) {
	t.Parallel()
	c := &couple{client: shopClient(), server: shopServer()}
	client, server := c.flush().reports()
	for i, gap := range []int64{0, 1, 500, 30, 501, 500} {
		next := &couple{client: c.client, server: c.server}
		next.client.Seed, next.server.Seed = seedNumber(110+i), seedNumber(130+i)
		next.client.Now, next.server.Now = client.Now+gap, server.Now+gap
		next.client.Saved, next.client.Early, next.server.Window = client.Saved, []byte("again"), server.Window
		client, server = next.flush().reports()
		if !agree(client, server) || client.Resumed != (gap <= 500) || server.EarlyTaken != (gap <= 500) {
			t.Errorf("%d seconds later: %s\nand %s", gap, reportInShort(client), reportInShort(server))
		}
		c = next
	}
}
