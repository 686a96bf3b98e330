package tests

import (
	"bytes"
	"fmt"
	"slices"
	"strings"
	"testing"

	"loop.example/g00004/impl"
)

// What is wrong with a message that may come, with the alert that names it, and the order in which they are looked for.

// badShares make a key that is 0 with any secret.
func badShares() [][]byte {
	one := make([]byte, 32)
	one[0] = 1
	prime := full(32)
	prime[0], prime[31] = 0xed, 0x7f
	return [][]byte{make([]byte, 32), one, prime, withBit(make([]byte, 32), 255)}
}

func rebound(hello impl.Message, psk []byte) impl.Message {
	hello.Binder = impl.BinderMac(psk, impl.HelloHead(hello))
	return hello
}

// helloFault is a change to a Hello that comes with a ticket; later ones of the list are looked for later.
type helloFault struct {
	alert  int64
	what   string
	change func(hello *impl.Message)
}

func helloFaults() []helloFault {
	return []helloFault{
		{impl.AlertVersion, "version", func(hello *impl.Message) { hello.Version = 2 }},
		{impl.AlertName, "host", func(hello *impl.Message) { hello.Host = "www.shop.local" }},
		{impl.AlertProtocol, "protocol", func(hello *impl.Message) { hello.Protocols = []string{"other", "h"} }},
		{impl.AlertIllegal, "share", func(hello *impl.Message) { hello.Share = make([]byte, 32) }},
		{impl.AlertDecrypt, "binder", func(hello *impl.Message) { hello.Binder = full(32) }},
	}
}

func protocolServer() impl.EndConfig {
	s := shopServer()
	s.Protocols = []string{"h2", "x"}
	return s
}

func protocolClient() impl.EndConfig {
	c := earlyClient()
	c.Protocols = []string{"x", "h2"}
	state := shopState()
	state.Protocol = "h2"
	c.Saved = savedOf(state)
	return c
}

// hears brings a Hello of any form to a server.
func hears(server impl.EndConfig, hello impl.Message) *play {
	return playServer(earlyClient(), server).backTo(0, 0).says(hello)
}

// Of two faults of a Hello the first that is looked for is told; nothing of the server's choices is, and the alert is plain.
func TestHelloFaults(t *testing.T) {
	t.Parallel()
	server := protocolServer()
	server.Window = wideWindow()
	good := playEnd(protocolClient()).messages[0]
	for i, first := range helloFaults() {
		for _, second := range helloFaults()[i:] {
			hello := good
			second.change(&hello)
			first.change(&hello)
			if first.what != "binder" && second.what != "binder" {
				hello = rebound(hello, shopState().Psk)
			}
			what := first.what + " and " + second.what
			got := hears(server, hello).checkFails(t, what, first.alert)
			checkList(t, what, got.Sent, []byte{21, 0, 1, byte(first.alert)})
			if got.Resumed || got.EarlyTaken || got.Protocol != "" || !sameWindow(got.Window, server.Window) || len(got.Exporter)+len(got.Transcript) > 0 {
				t.Errorf("%s: %s", what, reportInShort(got))
			}
		}
	}
	if got := hears(server, good).check(t, "no fault", impl.PhaseWaiting, noAlert, noAlert); !got.Resumed || !got.EarlyTaken || got.Protocol != "h2" {
		t.Errorf("no fault: %s", reportInShort(got))
	}
}

func TestHelloVersions(t *testing.T) {
	t.Parallel()
	good := playEnd(shopClient()).messages[0]
	for version := range 256 {
		hello := good
		hello.Version = int64(version)
		p := hears(shopServer(), hello)
		if version == 1 {
			p.check(t, "version", impl.PhaseWaiting, noAlert, noAlert)
		} else {
			p.checkFails(t, fmt.Sprint("version ", version), impl.AlertVersion)
		}
	}
}

// The host is matched by the first certificate alone, whatever the others have.
func TestHelloHosts(t *testing.T) {
	t.Parallel()
	for host, good := range map[string]bool{"www.shop.example": true, "shop.example": true, "a.shop.example": true, "a.b.shop.example": false,
		"example": false, "wwwshop.example": false, "middle.example": false, "xn--shop.example": false} {
		for _, count := range []int{1, 2, 3} {
			chain := goodCase(count)
			for i := 1; i < count; i++ {
				chain.chain[i].Hosts = []string{"middle.example"}
			}
			server := shopServerOf(chain.signed())
			hello := playEnd(shopClient()).messages[0]
			hello.Host = host
			p := hears(server, hello)
			if good {
				p.check(t, host, impl.PhaseWaiting, noAlert, noAlert)
			} else {
				p.checkFails(t, host, impl.AlertName)
			}
		}
	}
	// One without any hosts matches nobody.
	chain := goodCase(1)
	chain.chain[0].Hosts = nil
	hears(shopServerOf(chain.signed()), playEnd(shopClient()).messages[0]).checkFails(t, "no hosts", impl.AlertName)
}

func TestHelloProtocols(t *testing.T) {
	t.Parallel()
	for _, one := range []struct {
		own     []string
		offered []string
		good    bool
	}{
		{nil, []string{"a"}, true}, {[]string{"a"}, nil, true}, {[]string{"a"}, []string{"b"}, false}, {[]string{"a", "b"}, []string{"c", "A", "bb"}, false},
		{[]string{"ab"}, []string{"a", "b"}, false}, {[]string{"a", "b"}, []string{"b"}, true}, {longProtocols(8), []string{strings.Repeat("p", 31)}, false},
	} {
		server := shopServer()
		server.Protocols = one.own
		hello := playEnd(shopClient()).messages[0]
		hello.Protocols = one.offered
		p := hears(server, hello)
		if one.good {
			p.check(t, "protocols", impl.PhaseWaiting, noAlert, noAlert)
		} else {
			p.checkFails(t, fmt.Sprint(one.own, " and ", one.offered), impl.AlertProtocol)
		}
	}
}

func TestSharesOfNothing(t *testing.T) {
	t.Parallel()
	for _, share := range badShares() {
		hello := playEnd(shopClient()).messages[0]
		hello.Share = share
		hears(shopServer(), hello).checkFails(t, "a Hello's share", impl.AlertIllegal)
		answer := playEnd(shopServer()).opening(impl.KindAnswer)
		answer.Share = share
		clientAt(shopClient(), 0).says(answer).checkFails(t, "an Answer's share", impl.AlertIllegal)
	}
	// A share of any other bytes is good, one above P too.
	hello := playEnd(shopClient()).messages[0]
	hello.Share = full(32)
	hears(shopServer(), hello).check(t, "all bits", impl.PhaseWaiting, noAlert, noAlert)
}

// A binder is asked for only if the ticket is one to go on from.
func TestBinders(t *testing.T) {
	t.Parallel()
	for bit := 0; bit < 256; bit += 5 {
		hello := playEnd(backClient()).messages[0]
		hello.Binder = withBit(hello.Binder, bit)
		hears(shopServer(), hello).checkFails(t, "another binder", impl.AlertDecrypt)
		for _, change := range []func(hello *impl.Message, server *impl.EndConfig){
			func(hello *impl.Message, server *impl.EndConfig) { server.TicketKey = upwards(32) },
			func(hello *impl.Message, server *impl.EndConfig) { server.Now = 5401 },
			func(hello *impl.Message, server *impl.EndConfig) { server.Now = 4899 },
			func(hello *impl.Message, server *impl.EndConfig) { hello.Host = "shop.example" },
			func(hello *impl.Message, server *impl.EndConfig) { hello.Ticket = hello.Ticket[1:] },
			func(hello *impl.Message, server *impl.EndConfig) {
				hello.Protocols, server.Protocols = []string{"a"}, []string{"a"}
			},
		} {
			if bit%50 != 0 {
				continue
			}
			other, server := hello, shopServer()
			change(&other, &server)
			if got := hears(server, other).check(t, "a binder of no ticket", impl.PhaseWaiting, noAlert, noAlert); got.Resumed {
				t.Errorf("resumed without a binder")
			}
		}
	}
	// Whatever is changed in the head, the binder does not fit any more.
	for _, change := range []func(hello *impl.Message){
		func(hello *impl.Message) { hello.Random = withBit(hello.Random, 3) },
		func(hello *impl.Message) { hello.Share = withBit(hello.Share, 9) },
		func(hello *impl.Message) { hello.Protocols = []string{"h2"} },
		func(hello *impl.Message) { hello.Age++ },
		func(hello *impl.Message) { hello.Early = 1 - hello.Early },
	} {
		hello := playEnd(backClient()).messages[0]
		change(&hello)
		hears(shopServer(), hello).checkFails(t, "another head", impl.AlertDecrypt)
		hears(shopServer(), rebound(hello, shopState().Psk)).check(t, "another head, bound", impl.PhaseWaiting, noAlert, noAlert)
		hears(shopServer(), rebound(hello, upwards(32))).checkFails(t, "bound with another psk", impl.AlertDecrypt)
	}
}

func TestAnswerFaults(t *testing.T) {
	t.Parallel()
	for _, client := range []impl.EndConfig{shopClient(), backClient(), earlyClient()} {
		offered := len(client.Saved.Ticket) > 0
		for _, version := range []int64{1, 0, 2, 255} {
			for _, share := range [][]byte{upwards(32), make([]byte, 32)} {
				for _, resumed := range []bool{false, true} {
					alert := int64(noAlert)
					switch {
					case version != 1:
						alert = impl.AlertVersion
					case share[1] == 0 || resumed && !offered:
						alert = impl.AlertIllegal
					}
					p := clientAt(client, 0).says(impl.Message{Kind: impl.KindAnswer, Version: version, Random: upwards(32), Share: share, Resumed: resumed})
					what := fmt.Sprint("an Answer of version ", version, ", resumed ", resumed)
					if alert == noAlert {
						if got := p.check(t, what, impl.PhaseWaiting, noAlert, noAlert); got.Resumed != resumed {
							t.Errorf("%s: told as %v", what, got.Resumed)
						}
						continue
					}
					if got := p.checkFails(t, what, alert); got.Resumed {
						t.Errorf("%s: resumed", what)
					}
				}
			}
		}
	}
}

// A saved ticket that is not offered lets no Answer resume.
func TestAnswerToNoTicket(t *testing.T) {
	t.Parallel()
	for _, change := range []func(c *impl.EndConfig){
		func(c *impl.EndConfig) { c.Saved.Host = "shop.example" },
		func(c *impl.EndConfig) { c.Saved.Life = 99 },
	} {
		client := earlyClient()
		change(&client)
		answer := playEnd(shopServer()).opening(impl.KindAnswer)
		answer.Resumed = true
		p := clientAt(client, 0).says(answer)
		p.checkFails(t, "not offered", impl.AlertIllegal)
	}
}

// extrasCase is what a client offers, what the server says, and whether that is good.
type extrasCase struct {
	offered []string
	saved   string
	early   bool
	resumed bool
	said    []string
	taken   int64
	good    bool
}

func extrasCases() []extrasCase {
	return []extrasCase{
		{nil, "", false, false, nil, 0, true},
		{[]string{"a", "b"}, "", false, false, nil, 0, true},
		{[]string{"a", "b"}, "", false, false, []string{"b"}, 0, true},
		{[]string{"a", "b"}, "", false, false, []string{"c"}, 0, false},
		{nil, "", false, false, []string{"a"}, 0, false},
		{[]string{"a"}, "", false, false, nil, 1, false},
		{[]string{"a"}, "a", true, false, []string{"a"}, 1, false},
		{[]string{"a"}, "a", true, false, []string{"a"}, 0, true},
		{[]string{"a"}, "a", true, false, nil, 0, true},
		{[]string{"a", "b"}, "a", true, false, []string{"b"}, 0, true},
		{[]string{"a"}, "a", true, true, []string{"a"}, 1, true},
		{[]string{"a"}, "a", true, true, []string{"a"}, 0, true},
		{[]string{"a", "b"}, "a", true, true, []string{"b"}, 1, false},
		{[]string{"a", "b"}, "a", true, true, []string{"b"}, 0, false},
		{[]string{"a"}, "a", true, true, nil, 0, false},
		{[]string{"a"}, "", true, true, []string{"a"}, 0, false},
		{[]string{"a"}, "", true, true, nil, 1, true},
		{[]string{"b"}, "a", true, true, []string{"a"}, 0, false},
		{nil, "a", true, true, []string{"a"}, 0, false},
		{nil, "a", true, true, nil, 0, false},
		{[]string{"a"}, "a", false, true, []string{"a"}, 1, false},
		{[]string{"a"}, "a", false, true, []string{"a"}, 0, true},
	}
}

func TestExtras(t *testing.T) {
	t.Parallel()
	for i, one := range extrasCases() {
		client := backClient()
		client.Protocols, client.Saved.Protocol = one.offered, one.saved
		if one.early {
			client.Early = []byte("early")
		}
		answer := playEnd(shopServer()).opening(impl.KindAnswer)
		answer.Resumed = one.resumed
		p := clientAt(client, 0)
		p.other.state = shopState()
		p.says(answer).says(impl.Message{Kind: impl.KindExtras, Protocols: one.said, Early: one.taken})
		if !one.good {
			if got := p.checkFails(t, fmt.Sprint("extras ", i), impl.AlertIllegal); got.Protocol != "" || got.EarlyTaken {
				t.Errorf("extras %d: %s", i, reportInShort(got))
			}
			continue
		}
		got := p.check(t, fmt.Sprint("extras ", i), impl.PhaseWaiting, noAlert, noAlert)
		if got.Protocol != strings.Join(one.said, "") || got.EarlyTaken != (one.taken == 1) || got.Resumed != one.resumed {
			t.Errorf("extras %d: %s", i, reportInShort(got))
		}
	}
}

// certsCase is a chain that a server sends, and the alert of the client.
type certsCase struct {
	what  string
	alert int64
	chain chainCase
}

func certsOf(what string, alert int64, count int, change func(c *chainCase)) certsCase {
	c := goodCase(count)
	change(&c)
	return certsCase{what, alert, c.signed()}
}

func certsCases() []certsCase {
	unsigned := goodCase(2)
	unsigned.chain[0].Signature = withBit(unsigned.chain[0].Signature, 7)
	return []certsCase{
		certsOf("good", noAlert, 3, func(c *chainCase) {}),
		certsOf("from this second on", noAlert, 2, func(c *chainCase) { c.chain[0].From = 5000 }),
		certsOf("from the next second on", impl.AlertExpired, 2, func(c *chainCase) { c.chain[0].From = 5001 }),
		certsOf("until this second", noAlert, 2, func(c *chainCase) { c.chain[1].Until = 5000 }),
		certsOf("until the second ahead", impl.AlertExpired, 2, func(c *chainCase) { c.chain[1].Until = 4999 }),
		certsOf("another issuer", impl.AlertBadCert, 2, func(c *chainCase) { c.chain[0].Issuer = "Nobody" }),
		certsOf("no root", impl.AlertUnknownRoot, 2, func(c *chainCase) { c.chain[1].Issuer = "Nobody" }),
		certsOf("no root, and expired", impl.AlertExpired, 2, func(c *chainCase) { c.chain[1].Issuer, c.chain[0].Until = "Nobody", 4000 }),
		certsOf("no root, and another name", impl.AlertUnknownRoot, 2, func(c *chainCase) {
			c.chain[1].Issuer, c.chain[0].Hosts = "Nobody", []string{"a.example"}
		}),
		certsOf("no authority", impl.AlertBadCert, 2, func(c *chainCase) {
			c.chain[1].Authority, c.chain[1].Uses, c.chain[1].PathLimit, c.chain[1].Permitted, c.chain[1].Excluded = false, 3, -1, nil, nil
		}),
		certsOf("a path too long", impl.AlertBadCert, 3, func(c *chainCase) { c.chain[2].PathLimit = 0 }),
		certsOf("not for servers", impl.AlertBadCert, 2, func(c *chainCase) { c.chain[0].Uses = 2 }),
		certsOf("for servers alone", noAlert, 2, func(c *chainCase) { c.chain[0].Uses = 1 }),
		certsOf("another name", impl.AlertName, 2, func(c *chainCase) { c.chain[0].Hosts = []string{"shop.example"} }),
		certsOf("another name and not for servers", impl.AlertBadCert, 2, func(c *chainCase) {
			c.chain[0].Hosts, c.chain[0].Uses = []string{"shop.example"}, 2
		}),
		certsOf("another name and outside", impl.AlertName, 2, func(c *chainCase) { c.chain[0].Hosts = []string{"shop.net"} }),
		certsOf("outside the areas", impl.AlertBadCert, 2, func(c *chainCase) { c.chain[1].Excluded = []string{"www.shop.example"} }),
		{"a wrong signature", impl.AlertBadCert, unsigned},
		certsOf("signed by another root", impl.AlertBadCert, 2, func(c *chainCase) { c.seeds[2] = seedNumber(55) }),
	}
}

func certsMessage(certs []impl.Cert) impl.Message {
	m := impl.Message{Kind: impl.KindCerts}
	for _, c := range certs {
		m.Certs = append(m.Certs, impl.Blob{Data: toldCertForm(c)})
	}
	return m
}

func TestCertificates(t *testing.T) {
	t.Parallel()
	for _, one := range certsCases() {
		client := shopClient()
		client.Roots = goodCase(len(one.chain.chain)).roots
		p := clientAt(client, 2).says(certsMessage(one.chain.chain))
		if one.alert == noAlert {
			p.check(t, one.what, impl.PhaseWaiting, noAlert, noAlert)
		} else {
			p.checkFails(t, one.what, one.alert)
		}
	}
}

// All certificates are decoded ahead of asking whether they make a chain.
func TestCertificatesThatAreNone(t *testing.T) {
	t.Parallel()
	expired := certsOf("", 0, 2, func(c *chainCase) { c.chain[0].Until, c.chain[1].Issuer = 4000, "Nobody" })
	for at := range 2 {
		for _, form := range [][]byte{{0}, upwards(100), append(toldCertForm(expired.chain.chain[at]), 0), toldCertForm(expired.chain.chain[at])[1:]} {
			m := certsMessage(expired.chain.chain)
			m.Certs[at].Data = form
			clientAt(shopClient(), 2).says(m).checkFails(t, "no certificate", impl.AlertBadCert)
		}
	}
	clientAt(shopClient(), 2).says(certsMessage(expired.chain.chain)).checkFails(t, "expired", impl.AlertExpired)
}

// A client with other roots, another host or another time sees another fault in the same chain.
func TestCertificatesOfTheClient(t *testing.T) {
	t.Parallel()
	for _, one := range []struct {
		what   string
		alert  int64
		change func(c *impl.EndConfig)
	}{
		{"no roots", impl.AlertUnknownRoot, func(c *impl.EndConfig) { c.Roots = nil }},
		{"another root", impl.AlertUnknownRoot, func(c *impl.EndConfig) { c.Roots = c.Roots[:1] }},
		{"a root with another key", impl.AlertBadCert, func(c *impl.EndConfig) { c.Roots = []impl.Root{{Subject: "Root", Key: upwards(32)}} }},
		{"a root with no key", impl.AlertBadCert, func(c *impl.EndConfig) { c.Roots = []impl.Root{{Subject: "Root"}} }},
		{"two roots of one name", noAlert, func(c *impl.EndConfig) { c.Roots = append([]impl.Root{{Subject: "Root"}}, c.Roots...) }},
		{"sixteen roots", noAlert, func(c *impl.EndConfig) { c.Roots = append(manyRoots(14), c.Roots...) }},
		{"too early", impl.AlertExpired, func(c *impl.EndConfig) { c.Now = 999 }},
		{"in the first second", noAlert, func(c *impl.EndConfig) { c.Now = 1000 }},
		{"in the last second", noAlert, func(c *impl.EndConfig) { c.Now = 9000 }},
		{"too late", impl.AlertExpired, func(c *impl.EndConfig) { c.Now = 9001 }},
	} {
		client := shopClient()
		one.change(&client)
		p := playClient(client, shopServer()).back().deliver()
		if one.alert == noAlert {
			p.checkOpen(t, one.what)
		} else {
			p.checkFails(t, one.what, one.alert)
		}
	}
}

func TestProofs(t *testing.T) {
	t.Parallel()
	real := knownSignature(shopServer().KeySeed, clientAt(shopClient(), 3).other.proofText())
	clientAt(shopClient(), 3).says(impl.Message{Kind: impl.KindProof, Proof: real}).check(t, "the real proof", impl.PhaseWaiting, noAlert, noAlert)
	at := clientAt(shopClient(), 3)
	transcript := at.other.hash()
	wrong := [][]byte{
		make([]byte, 64), full(64),
		knownSignature(upwards(32), at.other.proofText()),
		knownSignature(shopServer().KeySeed, transcript),
		knownSignature(shopServer().KeySeed, append([]byte("server proof"), make([]byte, 32)...)),
		knownSignature(shopServer().KeySeed, append([]byte("client proof"), transcript...)),
		knownSignature(shopServer().KeySeed, append([]byte("server proof"), at.other.hashOf(3)...)),
		slices.Concat(real[32:], real[:32]),
	}
	for bit := 0; bit < 512; bit += 37 {
		wrong = append(wrong, withBit(real, bit))
	}
	for _, proof := range wrong {
		clientAt(shopClient(), 3).says(impl.Message{Kind: impl.KindProof, Proof: proof}).checkFails(t, "another proof", impl.AlertDecrypt)
	}
	// The key is that of the first certificate.
	chain := goodCase(2)
	server := shopServerOf(chain)
	server.KeySeed = chain.seeds[1]
	playClient(shopClient(), server).back().deliver().checkFails(t, "signed with the key of the second", impl.AlertDecrypt)
}

// A leaf whose key is a point of the small group proves nothing.
func TestProofWithASmallKey(t *testing.T) {
	t.Parallel()
	chain := goodCase(2)
	chain.chain[0].Key = append([]byte{1}, make([]byte, 31)...)
	chain = chain.signed()
	server := shopServerOf(chain)
	p := playClient(shopClient(), server).back().records(3).backTo(4, 2)
	// The point zero and the factor 0 would make an equation that holds with such a key.
	p.says(impl.Message{Kind: impl.KindProof, Proof: append(append([]byte{1}, make([]byte, 31)...), make([]byte, 32)...)})
	p.checkFails(t, "a small key", impl.AlertDecrypt)
}

func TestFinishedSums(t *testing.T) {
	t.Parallel()
	for _, s := range allStages() {
		if !slices.Contains(s.awaited, impl.KindFinished) {
			continue
		}
		real := realMessage(s)
		p := s.build()
		clientHs, serverHs := p.subject.secret("client hs"), p.subject.secret("server hs")
		other := serverHs
		if p.config().Server {
			other = clientHs
		}
		checkList(t, s.what, real.Proof, impl.FinishedMac(other, p.subject.hash()))
		wrong := [][]byte{make([]byte, 32), full(32),
			impl.FinishedMac(other, p.subject.hashOf(len(p.subject.messages)-1)),
			impl.FinishedMac(impl.NextSecret(other), p.subject.hash()),
			impl.FinishedMac(clientHs, p.subject.hashOf(2)), impl.FinishedMac(serverHs, p.subject.hashOf(2))}
		for bit := 0; bit < 256; bit += 31 {
			wrong = append(wrong, withBit(real.Proof, bit))
		}
		for _, proof := range wrong {
			if !bytes.Equal(proof, real.Proof) {
				got := s.build().says(impl.Message{Kind: impl.KindFinished, Proof: proof}).checkFails(t, s.what, impl.AlertDecrypt)
				if len(got.Transcript) > 0 || !p.config().Server && len(got.Exporter) > 0 {
					t.Errorf("%s: %s", s.what, reportInShort(got))
				}
			}
		}
	}
}

// The messages of a flight may stand in one record, or each byte in one of its own.
func TestMessagesInAnyRecords(t *testing.T) {
	t.Parallel()
	for _, size := range []int{1, 2, 7, 100, 1000, 2048} {
		p := clientAt(shopClient(), 1)
		whole := playServer(shopClient(), shopServer()).deliver().subject.messages
		var forms []byte
		for _, m := range whole[2:] {
			forms = append(forms, toldMessageForm(m)...)
		}
		for piece := range slices.Chunk(forms, size) {
			p.other.send(22, piece, 0)
		}
		p.deliver().checkOpen(t, fmt.Sprint("client, records of ", size))
		s := playServer(earlyClient(), shopServer()).backTo(0, 0)
		hello := playEnd(earlyClient()).messages[0]
		for piece := range slices.Chunk(toldMessageForm(hello), size) {
			s.other.send(22, piece, 0)
		}
		s.deliver().check(t, fmt.Sprint("server, records of ", size), impl.PhaseWaiting, noAlert, noAlert)
	}
}
