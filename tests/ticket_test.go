package tests

import (
	"bytes"
	"math/rand"
	"slices"
	"strings"
	"testing"

	"loop.example/g00004/impl"
)

// What chapter 16 says of sealed tickets, and promise 23.

func checkSealedTicket(t *testing.T, what string, key []byte, nonce []byte, s impl.TicketState) {
	t.Helper()
	got, want := impl.SealTicket(key, nonce, s), toldTicket(key, nonce, s)
	if !bytes.Equal(got, want) {
		t.Errorf("%s: key %x, nonce %x, %s: got %x, want %x", what, key, nonce, stateInShort(s), got, want)
	}
}

func checkOpenedTicket(t *testing.T, what string, key []byte, ticket []byte, want impl.StateResult) {
	t.Helper()
	if got := impl.OpenTicket(key, ticket); !sameStateResult(got, want) {
		t.Errorf("%s: key %x, ticket of %d bytes %x: got %v %s, want %v %s", what, key, len(ticket), ticket, got.Good, stateInShort(got.State), want.Good, stateInShort(want.State))
	}
}

// checkTicketBack holds promise 23 for one state.
func checkTicketBack(t *testing.T, key []byte, nonce []byte, s impl.TicketState) {
	t.Helper()
	checkSealedTicket(t, "sealed", key, nonce, s)
	checkOpenedTicket(t, "opened", key, impl.SealTicket(key, nonce, s), impl.StateResult{Good: true, State: s})
}

// checkOneForm asks that a ticket is opened only if it is what SealTicket makes of what it tells.
func checkOneForm(t *testing.T, what string, key []byte, ticket []byte) {
	t.Helper()
	got := impl.OpenTicket(key, ticket)
	if !got.Good {
		if !sameTicketState(got.State, impl.TicketState{}) {
			t.Errorf("%s: key %x, ticket %x: not good, but there is a %s", what, key, ticket, stateInShort(got.State))
		}
		return
	}
	checkList(t, what+", sealed again", impl.SealTicket(key, ticket[:12], got.State), ticket, key)
}

func ticketKeys(r *rand.Rand) [][]byte {
	return [][]byte{make([]byte, 32), full(32), upwards(32), randomList(r, 32), randomList(r, 32)}
}

func ticketNonces(r *rand.Rand) [][]byte {
	return [][]byte{make([]byte, 12), full(12), upwards(12), randomList(r, 12)}
}

// Made by another program.
func TestSealTicketKnownAnswers(t *testing.T) {
	longest := strings.Repeat("x", 63) + "." + strings.Repeat("y", 62) + ".z"
	for _, known := range []struct {
		key   []byte
		nonce []byte
		state impl.TicketState
		want  string
	}{
		{upwards(32), upwards(12), plainState(), "000102030405060708090a0b89fa0a032d12a347bf8a35f89410006cd961a0f44561bbaefe8e35de69ddb823137fd30c19e14e67c8cd89279a6b70dc817b568b02d74764ed4726f86fb061297978bccd8047dde9c41643ac187cccf1d6ad2f5d1f4495466f3a8062bd7f6a8d243027c34e842998f38ff552b9726edc"},
		{make([]byte, 32), make([]byte, 12), impl.TicketState{Psk: make([]byte, 32), Random: make([]byte, 32), Life: 1, Host: "a"}, "0000000000000000000000009f07e7be5551387a98ba977c732d080dcb0f29a048e3656912c6533e32ee7aed29b721769ce64e43d57133b074d839d531ed1f28510afb45ace10a1f4b794d6f2d09a0e663266ce1ae7ed1091968a0758f108e06c2781eaa050925b1ce717adf028077"},
		{full(32), full(12), impl.TicketState{Psk: full(32), Random: upwards(32), Made: lastTime, Life: lastLife, Host: longest, Protocol: strings.Repeat("p", 32), Early: lastAge}, "ffffffffffffffffffffffff22d8bfc313e141bd692c82cec7785b295f8ddae08dbbc49a2deb545ef8a39534273e4057dedbfefd9f5b15b4aea61f4c1123d8fec75ffad574f98196cde7d4c26de05fc0c4c7a3cb0180b6b7a164fed57d78022f8aef9a4ce35cab6bc3ee739fff480051b1b3eda3ddbe622824bb31bc8e10fd77b9661aa2b4604b2a1eaadda6f71356a27dd5cce8d0c276753c5e1fbf4b88c5f6f49e15cf010cc58fe5f5033f411e4ef9941a9fe7d965276e66a37f4f65af86e62413cc0777ad7abbc907cc5e568ffe0dd3b4f6b28dcf1a1df164806a3c57cd417ec3a6d4309b07995684ca884a284180918bff82f1b4b3a0191b8d881d3723db2299c2ab97b2a2fa3d76861c8b87"},
	} {
		want := fromHex(t, known.want)
		checkList(t, "a known ticket", impl.SealTicket(known.key, known.nonce, known.state), want)
		checkOpenedTicket(t, "a known ticket", known.key, want, impl.StateResult{Good: true, State: known.state})
		checkTicketBack(t, known.key, known.nonce, known.state)
	}
}

func TestPromise23Back(t *testing.T) {
	r := rand.New(rand.NewSource(348))
	for _, key := range ticketKeys(r) {
		for _, nonce := range ticketNonces(r) {
			checkTicketBack(t, key, nonce, plainState())
			for range 5 {
				checkTicketBack(t, key, nonce, randomTicketState(r))
			}
		}
		for _, s := range stateEnds(r) {
			checkTicketBack(t, key, randomList(r, 12), s)
		}
	}
}

// A ticket is no longer than a Hello may have one.
func TestTicketFitsIntoAHello(t *testing.T) {
	r := rand.New(rand.NewSource(349))
	for _, s := range stateEnds(r) {
		if n := len(impl.SealTicket(upwards(32), upwards(12), s)); n > impl.MaxTicket || n != 12+82+len(s.Host)+len(s.Protocol)+16 {
			t.Errorf("a ticket of %d bytes", n)
		}
	}
}

func TestPromise23EachBit(t *testing.T) {
	r := rand.New(rand.NewSource(350))
	for _, s := range []impl.TicketState{plainState(), stateEnds(r)[0], randomTicketState(r)} {
		key := randomList(r, 32)
		ticket := impl.SealTicket(key, randomList(r, 12), s)
		for bit := range 8 * len(ticket) {
			checkOneForm(t, "a bit", key, withBit(ticket, bit))
			checkOpenedTicket(t, "a bit", key, withBit(ticket, bit), impl.StateResult{})
		}
	}
}

func TestPromise23EachByte(t *testing.T) {
	r := rand.New(rand.NewSource(351))
	key := randomList(r, 32)
	ticket := impl.SealTicket(key, randomList(r, 12), plainState())
	for place := range ticket {
		for range 12 {
			other := bytes.Clone(ticket)
			other[place] ^= byte(1 + r.Intn(255))
			checkOneForm(t, "a byte", key, other)
			checkOpenedTicket(t, "a byte", key, other, impl.StateResult{})
		}
	}
}

func TestPromise23OtherLengths(t *testing.T) {
	r := rand.New(rand.NewSource(352))
	for _, s := range append(stateEnds(r)[:3], plainState()) {
		key := randomList(r, 32)
		ticket := impl.SealTicket(key, randomList(r, 12), s)
		for n := range len(ticket) {
			checkOneForm(t, "cut short", key, ticket[:n])
			checkOpenedTicket(t, "cut short", key, ticket[:n], impl.StateResult{})
			checkOpenedTicket(t, "cut short ahead", key, ticket[n+1:], impl.StateResult{})
		}
		for b := range 256 {
			longer := append(bytes.Clone(ticket), byte(b))
			checkOneForm(t, "a byte more", key, longer)
			checkOpenedTicket(t, "a byte more", key, longer, impl.StateResult{})
			checkOpenedTicket(t, "a byte more ahead", key, append([]byte{byte(b)}, ticket...), impl.StateResult{})
		}
	}
}

func TestPromise23OtherKeys(t *testing.T) {
	r := rand.New(rand.NewSource(353))
	for range 20 {
		key := randomList(r, 32)
		ticket := impl.SealTicket(key, randomList(r, 12), randomTicketState(r))
		for bit := range 8 * len(key) {
			checkOneForm(t, "another key", withBit(key, bit), ticket)
			checkOpenedTicket(t, "another key", withBit(key, bit), ticket, impl.StateResult{})
		}
		for _, other := range ticketKeys(r) {
			checkOpenedTicket(t, "another key", other, ticket, impl.StateResult{})
		}
	}
}

// Parts of two tickets that are good each do not make one together.
func TestPromise23PartsOfTwo(t *testing.T) {
	r := rand.New(rand.NewSource(354))
	key, s := randomList(r, 32), plainState()
	one, other := impl.SealTicket(key, randomList(r, 12), s), impl.SealTicket(key, randomList(r, 12), s)
	for n := 1; n < len(one); n++ {
		mixed := slices.Concat(one[:n], other[n:])
		checkOneForm(t, "mixed", key, mixed)
		checkOpenedTicket(t, "mixed", key, mixed, impl.StateResult{})
	}
}

// wrongInsides are sealed well but are no state in its one form.
func wrongInsides(r *rand.Rand) [][]byte {
	form := toldStateForm(plainState())
	all := [][]byte{nil, {0}, make([]byte, 81), make([]byte, 82), full(82), upwards(83), form[:len(form)-1], form[1:], append(bytes.Clone(form), 0), slices.Concat(form, form),
		make([]byte, len(form)), slices.Concat(upwards(12), form), make([]byte, 1000)}
	for _, one := range stateChanges() {
		s := one.of(randomTicketState(r))
		if one.rule != 0 && fitsInBytes(s) {
			all = append(all, toldStateBytes(s))
		}
	}
	for _, length := range []byte{0, 1, 11, 13, 14, 128, 129, 255} {
		other := bytes.Clone(form)
		other[80] = length
		all = append(all, other)
	}
	return all
}

func TestOpenTicketWrongInside(t *testing.T) {
	r := rand.New(rand.NewSource(355))
	insides := wrongInsides(r)
	if len(insides) < 100 {
		t.Fatalf("only %d insides", len(insides))
	}
	for i, inside := range insides {
		key, nonce := randomList(r, 32), randomList(r, 12)
		checkOpenedTicket(t, "a wrong inside", key, ticketOf(key, nonce, inside), impl.StateResult{})
		if i%20 == 0 {
			checkList(t, "the seal of an inside", ticketOf(key, nonce, inside), toldTicketOf(key, nonce, inside))
		}
	}
}

// A state that is sealed well, but with other extra bytes, as a record is.
func TestOpenTicketOtherExtra(t *testing.T) {
	r := rand.New(rand.NewSource(356))
	form := toldStateForm(plainState())
	key, nonce := randomList(r, 32), randomList(r, 12)
	for _, extra := range []string{"", "Ticket", "ticke", "ticket\x00", "tickets", "icket", "TICKET", "ticket ", "state", "\x17\x00\x70"} {
		other := slices.Concat(nonce, impl.Seal(key, nonce, []byte(extra), form))
		checkOpenedTicket(t, "other extra bytes "+extra, key, other, impl.StateResult{})
	}
	checkOpenedTicket(t, "the six bytes", key, slices.Concat(nonce, impl.Seal(key, nonce, []byte("ticket"), form)), impl.StateResult{Good: true, State: plainState()})
}

func TestSealTicketKeysAndNonces(t *testing.T) {
	r := rand.New(rand.NewSource(357))
	for _, n := range []int{0, 1, 12, 31, 32, 33, 64, 256 + 32} {
		for _, m := range []int{0, 1, 8, 11, 12, 13, 24, 32, 256 + 12} {
			for _, s := range []impl.TicketState{plainState(), randomTicketState(r), {}} {
				checkSealedTicket(t, "keys and nonces", randomList(r, n), randomList(r, m), s)
			}
		}
	}
	for _, pair := range keysAndNonces(r) {
		checkList(t, "a key or nonce of another length", impl.SealTicket(pair[0], pair[1], plainState()), nil, pair[0][:min(40, len(pair[0]))])
	}
}

func TestSealTicketFaultyStates(t *testing.T) {
	r := rand.New(rand.NewSource(358))
	for _, one := range stateChanges() {
		s := one.of(randomTicketState(r))
		checkSealedTicket(t, "a state of the rule", randomList(r, 32), randomList(r, 12), s)
		if got := impl.SealTicket(upwards(32), upwards(12), s); (len(got) == 0) != (one.rule != 0) {
			t.Errorf("the rule %d, %s: a ticket of %d bytes", one.rule, one.field, len(got))
		}
	}
}

// Tickets around the shortest that could be sealed, and keys of other lengths.
func TestOpenTicketSizes(t *testing.T) {
	r := rand.New(rand.NewSource(359))
	for _, key := range ticketKeys(r) {
		for n := range 130 {
			for _, ticket := range [][]byte{make([]byte, n), full(n), upwards(n), randomList(r, n)} {
				checkOpenedTicket(t, "no ticket", key, ticket, impl.StateResult{})
			}
		}
		nonce := randomList(r, 12)
		nothing := ticketOf(key, nonce, nil)
		if len(nothing) != 28 {
			t.Fatalf("a seal of nothing has %d bytes", len(nothing))
		}
		for _, n := range []int{0, 11, 12, 27, 28} {
			checkOpenedTicket(t, "a seal of nothing", key, nothing[:n], impl.StateResult{})
		}
	}
	checkOpenedTicket(t, "nothing", upwards(32), nil, impl.StateResult{})
	checkOpenedTicket(t, "nothing at all", nil, nil, impl.StateResult{})
}

func TestOpenTicketKeysOfOtherSizes(t *testing.T) {
	r := rand.New(rand.NewSource(360))
	for _, key := range [][]byte{randomList(r, 32), append(randomList(r, 31), 0), make([]byte, 32)} {
		ticket := impl.SealTicket(key, randomList(r, 12), plainState())
		checkOpenedTicket(t, "the key", key, ticket, impl.StateResult{Good: true, State: plainState()})
		for _, other := range [][]byte{nil, {}, key[:1], key[:12], key[:31], append(bytes.Clone(key), 0), append(bytes.Clone(key), key...), append([]byte{0}, key...)} {
			checkOpenedTicket(t, "a key of another length", other, ticket, impl.StateResult{})
		}
	}
}

// By the told seal and stream alone.
func TestOpenTicketTold(t *testing.T) {
	r := rand.New(rand.NewSource(361))
	good := 0
	for range 120 {
		key := randomList(r, 32)
		inside := toldStateForm(randomTicketState(r))
		if r.Intn(2) == 0 {
			inside[r.Intn(len(inside))] ^= byte(1 << r.Intn(8))
		}
		ticket := toldTicketOf(key, randomList(r, 12), inside)
		want := toldOpenTicket(key, ticket)
		if want.Good {
			good++
		}
		checkOpenedTicket(t, "told", key, ticket, want)
		checkOneForm(t, "told", key, ticket)
		ticket = withBit(ticket, r.Intn(8*len(ticket)))
		checkOpenedTicket(t, "told with a bit", key, ticket, toldOpenTicket(key, ticket))
	}
	if good < 50 || good == 120 {
		t.Errorf("%d of 120 were good", good)
	}
}
