package tests

import (
	"bytes"
	"fmt"
	"slices"
	"sync"

	"loop.example/g00004/impl"
)

// Chapter 17 done another way: an end keeps the messages of its transcript and little else; whatever secret it needs, it
// makes of them anew, by the calls of the chapters below.

const noAlert = -1

// The calls that cost most are made once for the same arguments.
var (
	costlySeen = map[string]any{}
	costlyLock sync.Mutex
)

func costly[T any](name string, call func() T, args ...[]byte) T {
	key := name
	for _, a := range args {
		key += fmt.Sprintf(" %x", a)
	}
	costlyLock.Lock()
	defer costlyLock.Unlock()
	known, seen := costlySeen[key]
	if !seen {
		known = call()
		costlySeen[key] = known
	}
	return known.(T)
}

func knownPublic(seed []byte) []byte {
	return bytes.Clone(costly("public", func() []byte { return impl.LadderPublic(seed) }, seed))
}

func knownShared(seed []byte, share []byte) impl.SharedResult {
	return costly("shared", func() impl.SharedResult { return impl.LadderShared(seed, share) }, seed, share)
}

func knownSignature(seed []byte, text []byte) []byte {
	return bytes.Clone(costly("sign", func() []byte { return impl.Sign(seed, text) }, seed, text))
}

func knownVerified(key []byte, text []byte, signature []byte) int64 {
	return costly("verify", func() int64 { return impl.Verify(key, text, signature) }, key, text, signature)
}

type playedEnd struct {
	c        impl.EndConfig
	r        impl.EndReport
	messages []impl.Message
	numbers  map[string]int64
	read     int
	written  int
	wire     []byte
	part     []byte
	state    impl.TicketState
	opened   bool
	passed   int64
}

func playEnd(c impl.EndConfig) *playedEnd {
	e := &playedEnd{c: c, numbers: map[string]int64{}}
	e.r = impl.EndReport{Alert: noAlert, PeerAlert: noAlert, Now: c.Now}
	if c.Server {
		e.r.Window = cloneWindow(c.Window)
	} else {
		e.greet()
	}
	return e
}

func (e *playedEnd) seeded(name string) []byte {
	return impl.Expand(e.c.Seed, []byte(name), 32)
}

func (e *playedEnd) hashOf(count int) []byte {
	var all []byte
	for _, m := range e.messages[:count] {
		all = append(all, toldMessageForm(m)...)
	}
	return impl.Hash(all)
}

func (e *playedEnd) hash() []byte {
	return e.hashOf(len(e.messages))
}

// behind counts the messages up to the first of a kind; 0 if there is none.
func (e *playedEnd) behind(kind int64) int {
	return 1 + slices.IndexFunc(e.messages, func(m impl.Message) bool { return m.Kind == kind })
}

func (e *playedEnd) has(kind int64) bool {
	return e.behind(kind) > 0
}

func (e *playedEnd) message(kind int64) impl.Message {
	if !e.has(kind) {
		return impl.Message{}
	}
	return e.messages[e.behind(kind)-1]
}

func (e *playedEnd) finished() int {
	count := 0
	for _, m := range e.messages {
		if m.Kind == impl.KindFinished {
			count++
		}
	}
	return count
}

func (e *playedEnd) psk() []byte {
	if e.c.Server {
		return e.state.Psk
	}
	return e.c.Saved.Psk
}

func (e *playedEnd) base() []byte {
	var psk []byte
	if e.message(impl.KindAnswer).Resumed {
		psk = e.psk()
	}
	other := e.message(impl.KindAnswer).Share
	if e.c.Server {
		other = e.message(impl.KindHello).Share
	}
	return impl.HandshakeSecret(impl.EarlySecret(psk), knownShared(e.seeded("share"), other).Key)
}

func (e *playedEnd) secret(label string) []byte {
	switch label {
	case "early":
		return impl.Derive(impl.EarlySecret(e.psk()), label, e.hashOf(1))
	case "client hs", "server hs":
		return impl.Derive(e.base(), label, e.hashOf(2))
	case "resume":
		return impl.Derive(impl.MasterSecret(e.base()), label, e.hash())
	}
	return impl.Derive(impl.MasterSecret(e.base()), label, e.hashOf(e.behind(impl.KindFinished)))
}

func renewed(secret []byte, times int) []byte {
	for range times {
		secret = impl.NextSecret(secret)
	}
	return secret
}

func (e *playedEnd) clientWrites() []byte {
	early := e.message(impl.KindHello).Early == 1
	switch {
	case e.finished() == 2:
		return renewed(e.secret("client data"), e.written)
	case e.has(impl.KindEndOfEarly),
		early && e.has(impl.KindExtras) && e.message(impl.KindExtras).Early == 0,
		!early && e.has(impl.KindAnswer):
		return e.secret("client hs")
	case early:
		return e.secret("early")
	}
	return nil
}

func (e *playedEnd) serverWrites() []byte {
	switch {
	case e.finished() > 0:
		return renewed(e.secret("server data"), e.written)
	case e.has(impl.KindAnswer):
		return e.secret("server hs")
	}
	return nil
}

func (e *playedEnd) writes() []byte {
	if e.c.Server {
		return e.serverWrites()
	}
	return e.clientWrites()
}

func (e *playedEnd) reads() []byte {
	switch {
	case !e.has(impl.KindAnswer):
		return nil
	case !e.c.Server && e.finished() > 0:
		return renewed(e.secret("server data"), e.read)
	case !e.c.Server:
		return e.secret("server hs")
	case e.finished() == 2:
		return renewed(e.secret("client data"), e.read)
	case e.r.EarlyTaken && !e.has(impl.KindEndOfEarly):
		return e.secret("early")
	}
	return e.secret("client hs")
}

// numbered answers the number of the next record with a secret, in one of the directions.
func (e *playedEnd) numbered(way string, secret []byte) int64 {
	return e.numbers[way+string(secret)]
}

func (e *playedEnd) send(kind int64, data []byte, pad int64) {
	secret := e.writes()
	if secret == nil {
		e.r.Sent = append(e.r.Sent, toldRecordForm(impl.Record{Kind: kind, Body: data})...)
		return
	}
	e.r.Sent = append(e.r.Sent, impl.Protect(impl.TrafficKeys(secret), e.numbered("out", secret), kind, data, pad)...)
	e.numbers["out"+string(secret)]++
}

func (e *playedEnd) sendPieces(kind int64, data []byte, pad int64) {
	for len(data) > 0 {
		size := min(len(data), impl.MaxPlain)
		e.send(kind, data[:size], pad)
		data = data[size:]
	}
}

// say sends a message, with the secret that is written with ahead of it.
func (e *playedEnd) say(m impl.Message) {
	e.sendPieces(22, toldMessageForm(m), 0)
	switch m.Kind {
	case impl.KindTicket:
	case impl.KindUpdate:
		e.written++
	default:
		e.messages = append(e.messages, m)
	}
}

func (e *playedEnd) fail(alert int64) {
	e.send(21, []byte{byte(alert)}, 0)
	e.r.Alert, e.r.Phase = alert, impl.PhaseFailed
}

func (e *playedEnd) opening(kind int64) impl.Message {
	return impl.Message{Kind: kind, Version: 1, Random: e.seeded("random"), Share: knownPublic(e.seeded("share"))}
}

func (e *playedEnd) greet() {
	hello := e.opening(impl.KindHello)
	hello.Host, hello.Protocols = e.c.Host, e.c.Protocols
	saved := e.c.Saved
	if len(saved.Ticket) > 0 && saved.Host == e.c.Host && saved.Got+saved.Life >= e.c.Now {
		hello.Ticket = saved.Ticket
		hello.Age = toldAge(saved.Random, e.c.Now-saved.Got)
		if n := int64(len(e.c.Early)); n != 0 && n <= saved.Early {
			hello.Early = 1
		}
		hello.Binder = make([]byte, 32)
		form := toldMessageForm(hello)
		hello.Binder = impl.BinderMac(saved.Psk, form[:len(form)-32])
	}
	e.say(hello)
	if hello.Early == 1 {
		e.sendPieces(23, e.c.Early, e.c.Pad)
	}
}

func (e *playedEnd) finish() {
	secret := e.secret("client hs")
	if e.c.Server {
		secret = e.secret("server hs")
	}
	e.say(impl.Message{Kind: impl.KindFinished, Proof: impl.FinishedMac(secret, e.hash())})
}

// take answers what the end answers to an event.
func (e *playedEnd) take(event impl.Event) int64 {
	mayWrite := e.r.Phase == impl.PhaseOpen && e.r.Alert == noAlert
	switch {
	case e.r.Phase == impl.PhaseFailed:
		return 1
	case event.Kind == impl.EvBytes:
		e.wire = append(e.wire, event.Data...)
		e.hearAll()
	case event.Kind == impl.EvTime && event.Number >= 0 && event.Number <= lastTime:
		e.r.Now = min(lastTime, e.r.Now+event.Number)
	case event.Kind == impl.EvWrite && mayWrite:
		e.sendPieces(23, event.Data, e.c.Pad)
	case event.Kind == impl.EvClose && mayWrite:
		e.send(21, []byte{0}, 0)
		e.r.Alert = impl.AlertClose
		if e.r.PeerAlert == impl.AlertClose {
			e.r.Phase = impl.PhaseClosed
		}
	case event.Kind == impl.EvUpdate && mayWrite && (event.Number == 0 || event.Number == 1):
		e.say(impl.Message{Kind: impl.KindUpdate, Early: event.Number})
	default:
		return 1
	}
	return 0
}

// hearAll takes records off the wire one by one, as long as there are any and the end hears.
func (e *playedEnd) hearAll() {
	for e.r.Phase != impl.PhaseFailed && e.r.PeerAlert == noAlert && len(e.wire) > 0 {
		if e.wire[0] < 21 || e.wire[0] > 23 {
			e.fail(impl.AlertUnexpected)
			return
		}
		if len(e.wire) < 3 {
			return
		}
		size := int(e.wire[1])*256 + int(e.wire[2])
		if size == 0 || size > impl.MaxSealed {
			e.fail(impl.AlertOverflow)
			return
		}
		if len(e.wire) < 3+size {
			return
		}
		kind, body := int64(e.wire[0]), e.wire[3:3+size]
		e.wire = e.wire[3+size:]
		if alert := e.hear(kind, bytes.Clone(body)); alert != noAlert {
			e.fail(alert)
		}
	}
}

// hear answers the alert with which a record is refused.
func (e *playedEnd) hear(kind int64, body []byte) int64 {
	secret, sealed := e.reads(), false
	if kind == 23 && secret != nil {
		opened := impl.Unprotect(impl.TrafficKeys(secret), e.numbered("in", secret), body)
		if alert, over := e.unopened(opened.Code, len(body)); over {
			return alert
		}
		e.numbers["in"+string(secret)]++
		e.opened = true
		kind, body, sealed = opened.Kind, opened.Data, true
	}
	switch {
	case len(e.part) > 0 && kind != 22:
		return impl.AlertUnexpected
	case kind == 21 && sealed && len(body) != 1:
		return impl.AlertDecode
	case kind == 21 && len(body) == 1 && (sealed || !e.opened):
		e.hearAlert(int64(body[0]))
		return noAlert
	case kind == 22 && (sealed || secret == nil):
		return e.hearMessages(body)
	case kind == 23 && sealed:
		return e.hearData(body)
	}
	return impl.AlertUnexpected
}

// unopened tells whether there is an end to it with this code, and with which alert; with none the record is passed over.
func (e *playedEnd) unopened(code int64, size int) (int64, bool) {
	passing := e.c.Server && e.message(impl.KindHello).Early == 1 && !e.r.EarlyTaken && !e.opened
	if passing && (code == 1 || code == 2) && e.passed+int64(size) <= impl.MaxSkipped {
		e.passed += int64(size)
		return noAlert, true
	}
	alerts := []int64{noAlert, impl.AlertOverflow, impl.AlertBadRecord, impl.AlertUnexpected, impl.AlertUnexpected, impl.AlertOverflow, impl.AlertUnexpected}
	return alerts[code], code != 0
}

func (e *playedEnd) hearAlert(number int64) {
	e.r.PeerAlert = number
	if number != impl.AlertClose || e.r.Phase != impl.PhaseOpen {
		e.r.Phase = impl.PhaseFailed
	} else if e.r.Alert == impl.AlertClose {
		e.r.Phase = impl.PhaseClosed
	}
}

func (e *playedEnd) hearData(data []byte) int64 {
	if e.c.Server && e.r.EarlyTaken && !e.has(impl.KindEndOfEarly) {
		if e.r.EarlyRead+int64(len(data)) > e.state.Early {
			return impl.AlertUnexpected
		}
		e.r.EarlyRead += int64(len(data))
	} else if e.finished() < 2 {
		return impl.AlertUnexpected
	}
	e.r.Read = append(e.r.Read, data...)
	return noAlert
}

func (e *playedEnd) hearMessages(body []byte) int64 {
	e.part = append(e.part, body...)
	for len(e.part) > 0 {
		next := toldMessageAt(e.part, 0)
		if next.Code == 1 {
			return noAlert
		}
		if next.Code != 0 {
			return impl.AlertDecode
		}
		e.part = e.part[next.Next:]
		turning := []int64{impl.KindHello, impl.KindAnswer, impl.KindFinished, impl.KindEndOfEarly, impl.KindUpdate}
		if slices.Contains(turning, next.Message.Kind) && len(e.part) > 0 {
			return impl.AlertUnexpected
		}
		if alert := e.hearMessage(next.Message); alert != noAlert {
			return alert
		}
	}
	return noAlert
}

// awaited are the kinds that may come now.
func (e *playedEnd) awaited() []int64 {
	last := int64(0)
	if len(e.messages) > 0 {
		last = e.messages[len(e.messages)-1].Kind
	}
	switch {
	case e.finished() == 2 && e.c.Server:
		return []int64{impl.KindUpdate}
	case e.finished() == 2:
		return []int64{impl.KindTicket, impl.KindUpdate}
	case e.c.Server && last == 0:
		return []int64{impl.KindHello}
	case e.c.Server && last == impl.KindFinished && e.r.EarlyTaken:
		return []int64{impl.KindEndOfEarly}
	case e.c.Server:
		return []int64{impl.KindFinished}
	case last == impl.KindHello:
		return []int64{impl.KindAnswer}
	case last == impl.KindAnswer:
		return []int64{impl.KindExtras}
	case last == impl.KindExtras && !e.r.Resumed:
		return []int64{impl.KindCerts}
	case last == impl.KindCerts:
		return []int64{impl.KindProof}
	}
	return []int64{impl.KindFinished}
}

func (e *playedEnd) hearMessage(m impl.Message) int64 {
	if !slices.Contains(e.awaited(), m.Kind) {
		return impl.AlertUnexpected
	}
	switch m.Kind {
	case impl.KindHello:
		return e.hearHello(m)
	case impl.KindAnswer:
		return e.hearAnswer(m)
	case impl.KindExtras:
		return e.hearExtras(m)
	case impl.KindCerts:
		return e.hearCerts(m)
	case impl.KindProof:
		return e.hearProof(m)
	case impl.KindFinished:
		return e.hearFinished(m)
	case impl.KindTicket:
		return e.hearTicket(m)
	case impl.KindUpdate:
		e.read++
		if m.Early == 1 && e.r.Alert != impl.AlertClose {
			e.say(impl.Message{Kind: impl.KindUpdate})
		}
	default:
		e.messages = append(e.messages, m)
	}
	return noAlert
}

func (e *playedEnd) hearAnswer(m impl.Message) int64 {
	switch {
	case m.Version != 1:
		return impl.AlertVersion
	case !knownShared(e.seeded("share"), m.Share).Good:
		return impl.AlertIllegal
	case m.Resumed && len(e.messages[0].Ticket) == 0:
		return impl.AlertIllegal
	}
	e.messages = append(e.messages, m)
	e.r.Resumed = m.Resumed
	return noAlert
}

func (e *playedEnd) hearExtras(m impl.Message) int64 {
	protocol := ""
	for _, p := range m.Protocols {
		if !slices.Contains(e.c.Protocols, p) {
			return impl.AlertIllegal
		}
		protocol = p
	}
	if m.Early == 1 && (e.messages[0].Early == 0 || !e.r.Resumed) || e.r.Resumed && protocol != e.c.Saved.Protocol {
		return impl.AlertIllegal
	}
	e.messages = append(e.messages, m)
	e.r.Protocol, e.r.EarlyTaken = protocol, m.Early == 1
	return noAlert
}

func (e *playedEnd) hearCerts(m impl.Message) int64 {
	var chain []impl.Cert
	for _, form := range m.Certs {
		decoded := toldDecode(form.Data)
		if !decoded.Good {
			return impl.AlertBadCert
		}
		chain = append(chain, decoded.Cert)
	}
	switch toldChain(chain, e.c.Roots, impl.Wanted{Host: e.c.Host, Now: e.r.Now, Use: 1}).Code {
	case 0:
		e.messages = append(e.messages, m)
		return noAlert
	case 3:
		return impl.AlertExpired
	case 5:
		return impl.AlertUnknownRoot
	case 9:
		return impl.AlertName
	}
	return impl.AlertBadCert
}

func (e *playedEnd) proofText() []byte {
	return append([]byte("server proof"), e.hash()...)
}

func (e *playedEnd) hearProof(m impl.Message) int64 {
	leaf := toldDecode(e.message(impl.KindCerts).Certs[0].Data).Cert
	if knownVerified(leaf.Key, e.proofText(), m.Proof) != 0 {
		return impl.AlertDecrypt
	}
	e.messages = append(e.messages, m)
	return noAlert
}

func (e *playedEnd) hearFinished(m impl.Message) int64 {
	secret := e.secret("server hs")
	if e.c.Server {
		secret = e.secret("client hs")
	}
	if !bytes.Equal(impl.FinishedMac(secret, e.hash()), m.Proof) {
		return impl.AlertDecrypt
	}
	e.messages = append(e.messages, m)
	e.r.Exporter = e.secret("exporter")
	if !e.c.Server {
		if e.r.EarlyTaken {
			e.say(impl.Message{Kind: impl.KindEndOfEarly})
		}
		e.finish()
	}
	e.r.Transcript, e.r.Phase = e.hash(), impl.PhaseOpen
	if e.c.Server && e.c.Life != 0 {
		e.giveTicket()
	}
	return noAlert
}

func (e *playedEnd) hearTicket(m impl.Message) int64 {
	if m.Age < 1 || m.Age > lastLife {
		return impl.AlertIllegal
	}
	e.r.Saved = impl.Saved{Ticket: m.Ticket, Psk: impl.TicketSecret(e.secret("resume"), m.Random), Random: m.Random,
		Got: e.r.Now, Life: m.Age, Host: e.c.Host, Protocol: e.r.Protocol, Early: m.Early}
	return noAlert
}

func (e *playedEnd) giveTicket() {
	random := e.seeded("ticket")
	state := impl.TicketState{Psk: impl.TicketSecret(e.secret("resume"), random), Random: random, Made: e.r.Now, Life: e.c.Life,
		Host: e.message(impl.KindHello).Host, Protocol: e.r.Protocol, Early: e.c.EarlyMost}
	ticket := impl.SealTicket(e.c.TicketKey, impl.Expand(e.c.Seed, []byte("nonce"), 12), state)
	e.say(impl.Message{Kind: impl.KindTicket, Age: e.c.Life, Early: e.c.EarlyMost, Random: random, Ticket: ticket})
}

// protocolOf answers also whether one is found where one is needed.
func protocolOf(own []string, offered []string) (string, bool) {
	if len(own) == 0 || len(offered) == 0 {
		return "", true
	}
	at := slices.IndexFunc(own, func(p string) bool { return slices.Contains(offered, p) })
	if at < 0 {
		return "", false
	}
	return own[at], true
}

func (e *playedEnd) hearHello(m impl.Message) int64 {
	protocol, found := protocolOf(e.c.Protocols, m.Protocols)
	switch {
	case m.Version != 1:
		return impl.AlertVersion
	case !slices.ContainsFunc(e.c.Certs[0].Hosts, func(pattern string) bool { return toldMatches(pattern, m.Host) }):
		return impl.AlertName
	case !found:
		return impl.AlertProtocol
	case !knownShared(e.seeded("share"), m.Share).Good:
		return impl.AlertIllegal
	}
	opened := toldOpenTicket(e.c.TicketKey, m.Ticket)
	s, gone := opened.State, e.r.Now-opened.State.Made
	if opened.Good && s.Host == m.Host && s.Protocol == protocol && gone >= 0 && gone <= s.Life {
		form := toldMessageForm(m)
		if !bytes.Equal(impl.BinderMac(s.Psk, form[:len(form)-32]), m.Binder) {
			return impl.AlertDecrypt
		}
		e.state, e.r.Resumed = s, true
		if m.Early == 1 && e.c.EarlyMost > 0 && toldFresh(s.Random, m.Age, gone, e.c.Window.Width) {
			asked := toldAsk(e.r.Window, impl.Hash(m.Binder), e.r.Now)
			e.r.EarlyTaken, e.r.Window = asked.Code == 0, asked.Window
		}
	}
	e.r.Protocol = protocol
	e.messages = append(e.messages, m)
	e.answer()
	return noAlert
}

func (e *playedEnd) answer() {
	answer := e.opening(impl.KindAnswer)
	answer.Resumed = e.r.Resumed
	e.say(answer)
	extras := impl.Message{Kind: impl.KindExtras}
	if e.r.Protocol != "" {
		extras.Protocols = []string{e.r.Protocol}
	}
	if e.r.EarlyTaken {
		extras.Early = 1
	}
	e.say(extras)
	if !e.r.Resumed {
		e.prove()
	}
	e.finish()
	e.r.Exporter = e.secret("exporter")
}

func (e *playedEnd) prove() {
	certs := impl.Message{Kind: impl.KindCerts}
	for _, c := range e.c.Certs {
		certs.Certs = append(certs.Certs, impl.Blob{Data: toldCertForm(c)})
	}
	e.say(certs)
	e.say(impl.Message{Kind: impl.KindProof, Proof: knownSignature(e.c.KeySeed, e.proofText())})
}

func toldSaved(s impl.Saved, now int64) int64 {
	if fmt.Sprint(s) == fmt.Sprint(impl.Saved{}) {
		return 0
	}
	rules := []bool{
		len(s.Ticket) >= 1 && len(s.Ticket) <= 400,
		len(s.Psk) == 32 && len(s.Random) == 32,
		toldBetween(s.Got, 0, now),
		toldBetween(s.Life, 1, lastLife),
		toldNameFault(s.Host) == 0,
		len(s.Protocol) < 33,
		toldBetween(s.Early, 0, lastAge),
	}
	return int64(slices.Index(rules, false) + 1)
}

// toldProtocolsFit is asked with messages: chapter 13 has the same rule for a Hello.
func toldProtocolsFit(protocols []string) bool {
	return !toldProtocolsWrong(impl.Message{Kind: impl.KindHello, Protocols: protocols})
}

func toldCertsFit(certs []impl.Cert) bool {
	return len(certs) > 0 && len(certs) < 5 && !slices.ContainsFunc(certs, func(c impl.Cert) bool {
		return toldCertFault(c) != 0 || len(toldCertForm(c)) > 2000
	})
}

// toldConfig answers the first of twelve rules that does not hold; those for the other role always do.
func toldConfig(c impl.EndConfig) int64 {
	rules := []bool{
		len(c.Seed) == 32,
		toldBetween(c.Now, 0, lastTime),
		toldProtocolsFit(c.Protocols),
		toldBetween(c.Pad, 0, 256),
		c.Server || toldNameFault(c.Host) == 0,
		c.Server || len(c.Roots) < 17,
		c.Server || toldSaved(c.Saved, c.Now) == 0,
		c.Server || len(c.Early) < 4097,
		!c.Server || toldCertsFit(c.Certs),
		!c.Server || len(c.KeySeed) == 32 && len(c.TicketKey) == 32,
		!c.Server || toldBetween(c.Life, 0, lastLife) && toldBetween(c.EarlyMost, 0, lastAge),
		!c.Server || toldWindowFault(c.Window) == 0,
	}
	return int64(slices.Index(rules, false) + 1)
}

func toldRun(c impl.EndConfig, events []impl.Event) impl.EndReport {
	if fault := toldConfig(c); fault != 0 {
		return impl.EndReport{Fault: fault}
	}
	fed := 0
	for _, event := range events {
		fed += len(event.Data)
	}
	if len(events) > 400 || fed > 200000 {
		return impl.EndReport{Fault: 99}
	}
	e := playEnd(c)
	for _, event := range events {
		e.r.Answers = append(e.r.Answers, e.take(event))
	}
	return e.r
}
