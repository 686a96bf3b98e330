package tests

import (
	"bytes"
	"math/rand"
	"slices"
	"strings"
	"testing"

	"loop.example/g00004/impl"
)

// What chapter 16 says of a ticket's state: its rules, and its one form as bytes.

// stateChange is to one field of a state, and breaks one rule, or none where rule is 0.
type stateChange struct {
	rule   int64
	field  string
	change func(s *impl.TicketState)
}

func (one stateChange) of(s impl.TicketState) impl.TicketState {
	s.Psk, s.Random = bytes.Clone(s.Psk), bytes.Clone(s.Random)
	one.change(&s)
	return s
}

func stateListChanges(field string, set func(s *impl.TicketState, list []byte)) []stateChange {
	var all []stateChange
	for _, n := range []int{0, 1, 31, 33, 64, 256, 256 + 32, 65536 + 32} {
		all = append(all, stateChange{1, field, func(s *impl.TicketState) { set(s, upwards(n)) }})
	}
	for _, list := range [][]byte{make([]byte, 32), full(32), upwards(32)} {
		all = append(all, stateChange{0, field, func(s *impl.TicketState) { set(s, list) }})
	}
	return all
}

func stateNumberChanges(rule int64, field string, least int64, most int64, set func(s *impl.TicketState, v int64)) []stateChange {
	var all []stateChange
	for _, v := range outsideOf(least, most) {
		all = append(all, stateChange{rule, field, func(s *impl.TicketState) { set(s, v) }})
	}
	for _, v := range insideOfLimits(least, most) {
		all = append(all, stateChange{0, field, func(s *impl.TicketState) { set(s, v) }})
	}
	return all
}

// noHosts are no host names, such as would be patterns among them.
func noHosts() []string {
	return append([]string{"", ".", "a.", ".a", "a..b", "A", "a_b", "-a", "a-", "*.a.b", "*", longName(129), longName(130), longName(256), longName(257), longName(300)}, noNames()...)
}

func stateTextChanges() []stateChange {
	var all []stateChange
	for _, host := range noHosts() {
		all = append(all, stateChange{4, "Host", func(s *impl.TicketState) { s.Host = host }})
	}
	for _, host := range stateHosts() {
		all = append(all, stateChange{0, "Host", func(s *impl.TicketState) { s.Host = host }})
	}
	for _, n := range []int{33, 34, 64, 255, 256, 257, 288, 65536} {
		all = append(all, stateChange{5, "Protocol", func(s *impl.TicketState) { s.Protocol = strings.Repeat("p", n) }})
	}
	for _, protocol := range stateProtocols() {
		all = append(all, stateChange{0, "Protocol", func(s *impl.TicketState) { s.Protocol = protocol }})
	}
	return all
}

func stateChanges() []stateChange {
	return slices.Concat(
		stateListChanges("Psk", func(s *impl.TicketState, list []byte) { s.Psk = list }),
		stateListChanges("Random", func(s *impl.TicketState, list []byte) { s.Random = list }),
		stateNumberChanges(2, "Made", 0, lastTime, func(s *impl.TicketState, v int64) { s.Made = v }),
		stateNumberChanges(3, "Life", 1, lastLife, func(s *impl.TicketState, v int64) { s.Life = v }),
		stateNumberChanges(6, "Early", 0, lastAge, func(s *impl.TicketState, v int64) { s.Early = v }),
		stateTextChanges())
}

// fewStateChanges are some of each rule.
func fewStateChanges(r *rand.Rand, count int) []stateChange {
	var few []stateChange
	all := stateChanges()
	for rule := int64(1); rule <= 6; rule++ {
		ofRule := slices.DeleteFunc(slices.Clone(all), func(one stateChange) bool { return one.rule != rule })
		for range count {
			few = append(few, ofRule[r.Intn(len(ofRule))])
		}
	}
	return few
}

// checkTicketState holds a state to the first rule that it breaks, and to what is made of it then.
func checkTicketState(t *testing.T, s impl.TicketState, want int64) {
	t.Helper()
	if got := impl.StateFault(s); got != want || toldStateFault(s) != want {
		t.Errorf("%s: got %d, want %d, told %d", stateInShort(s), got, want, toldStateFault(s))
	}
	form := impl.EncodeState(s)
	checkList(t, "the form of a state", form, toldStateForm(s))
	if want == 0 {
		checkDecodedState(t, "back", form, impl.StateResult{Good: true, State: s})
	}
}

func checkDecodedState(t *testing.T, what string, b []byte, want impl.StateResult) {
	t.Helper()
	if got := impl.DecodeState(b); !sameStateResult(got, want) {
		t.Errorf("%s: %d bytes %x: got %v %s, want %v %s", what, len(b), b, got.Good, stateInShort(got.State), want.Good, stateInShort(want.State))
	}
}

func TestStateConstants(t *testing.T) {
	if impl.MaxLife != lastLife || impl.MaxMarks != mostMarks || impl.MaxWidth != lastWidth || impl.MaxTime != lastTime || impl.MaxAge != lastAge {
		t.Errorf("a constant is another")
	}
}

func TestStateFaultAlone(t *testing.T) {
	r := rand.New(rand.NewSource(339))
	for _, one := range stateChanges() {
		checkTicketState(t, one.of(plainState()), one.rule)
		checkTicketState(t, one.of(randomTicketState(r)), one.rule)
	}
}

// Of two rules that are broken the first one is told, in whichever order they were.
func TestStateFaultOfTwo(t *testing.T) {
	r := rand.New(rand.NewSource(340))
	for range 4 {
		for _, one := range fewStateChanges(r, 3) {
			for _, other := range fewStateChanges(r, 3) {
				if one.field != other.field {
					checkTicketState(t, other.of(one.of(randomTicketState(r))), min(one.rule, other.rule))
				}
			}
		}
	}
}

// Each rule together with all that stand behind it.
func TestStateFaultOfAllBehind(t *testing.T) {
	r := rand.New(rand.NewSource(341))
	for range 50 {
		few := fewStateChanges(r, 1)
		for first := range few {
			s := randomTicketState(r)
			for _, one := range few[first:] {
				s = one.of(s)
			}
			checkTicketState(t, s, int64(first+1))
		}
	}
	checkTicketState(t, impl.TicketState{}, 1)
}

func TestStateFaultOfSecrets(t *testing.T) {
	for _, n := range []int{0, 31, 32, 33} {
		for _, m := range []int{0, 31, 32, 33} {
			s := plainState()
			s.Psk, s.Random = upwards(n), upwards(m)
			want := int64(1)
			if n == 32 && m == 32 {
				want = 0
			}
			checkTicketState(t, s, want)
		}
	}
}

// The ends of all limits with each other.
func TestStateEnds(t *testing.T) {
	r := rand.New(rand.NewSource(342))
	for _, s := range stateEnds(r) {
		checkTicketState(t, s, 0)
	}
	least := impl.TicketState{Psk: make([]byte, 32), Random: make([]byte, 32), Life: 1, Host: "a"}
	checkList(t, "the least state", impl.EncodeState(least), slices.Concat(make([]byte, 72), []byte{0, 0, 0, 1, 0, 0, 0, 0, 1, 'a', 0}))
	greatest := impl.TicketState{Psk: full(32), Random: full(32), Made: lastTime, Life: lastLife, Host: longName(128), Protocol: strings.Repeat("p", 32), Early: lastAge}
	if n := len(impl.EncodeState(greatest)); n != 64+16+129+33 {
		t.Errorf("the greatest state has %d bytes", n)
	}
}

// Each field in its place: a change to one changes no byte of another.
func TestEncodeStatePlaces(t *testing.T) {
	s := impl.TicketState{Psk: bytes.Repeat([]byte{1}, 32), Random: bytes.Repeat([]byte{2}, 32), Made: 0x33, Life: 0x44, Host: "host", Protocol: "proto", Early: 0x55}
	want := slices.Concat(s.Psk, s.Random, []byte{0, 0, 0, 0, 0, 0, 0, 0x33, 0, 0, 0, 0x44, 0, 0, 0, 0x55, 4, 'h', 'o', 's', 't', 5, 'p', 'r', 'o', 't', 'o'})
	checkList(t, "a state", impl.EncodeState(s), want)
	s.Made, s.Life, s.Early = 0x3a01020304, 0x091234, 0xa1b2c3d4
	copy(want[64:80], []byte{0, 0, 0, 0x3a, 1, 2, 3, 4, 0, 9, 0x12, 0x34, 0xa1, 0xb2, 0xc3, 0xd4})
	checkList(t, "a state with more in its numbers", impl.EncodeState(s), want)
}

func TestDecodeStateOfManyStates(t *testing.T) {
	r := rand.New(rand.NewSource(343))
	for range 500 {
		checkTicketState(t, randomTicketState(r), 0)
	}
}

// A byte less, a byte more, and each beginning of the bytes.
func TestDecodeStateLengths(t *testing.T) {
	r := rand.New(rand.NewSource(344))
	for _, s := range append(stateEnds(r), plainState(), randomTicketState(r)) {
		form := toldStateForm(s)
		for n := range len(form) {
			checkDecodedState(t, "cut short", form[:n], impl.StateResult{})
		}
		for _, behind := range [][]byte{{0}, {1}, {255}, {0, 0}, form, make([]byte, 256)} {
			checkDecodedState(t, "more behind", slices.Concat(form, behind), impl.StateResult{})
		}
		checkDecodedState(t, "more ahead", append([]byte{0}, form...), impl.StateResult{})
		checkDecodedState(t, "less ahead", form[1:], impl.StateResult{})
	}
	checkDecodedState(t, "nothing", nil, impl.StateResult{})
	checkDecodedState(t, "nothing", []byte{}, impl.StateResult{})
}

// Every other length of the two texts, with the bytes behind them as they were.
func TestDecodeStateTextLengths(t *testing.T) {
	r := rand.New(rand.NewSource(345))
	for _, s := range append(stateEnds(r), plainState(), randomTicketState(r), randomTicketState(r)) {
		form := toldStateForm(s)
		for _, place := range []int{80, 81 + len(s.Host)} {
			for length := range 256 {
				other := bytes.Clone(form)
				other[place] = byte(length)
				checkDecodedState(t, "another length", other, toldDecodeState(other))
			}
		}
	}
}

// A host that is one byte shorter gives that byte to the protocol: the bytes stay good if that fits as a length.
func TestDecodeStateOtherSplit(t *testing.T) {
	s := plainState()
	s.Host, s.Protocol = "ab", "\x01\x00"
	want := s
	want.Host, want.Protocol = "ab", "\x01\x00"
	checkDecodedState(t, "as it was", toldStateForm(s), impl.StateResult{Good: true, State: want})
	split := append(toldStateBytes(s)[:80], 1, 'a', 3, 'b', 2, 1)
	want.Host, want.Protocol = "a", "b\x02\x01"
	checkDecodedState(t, "split otherwise", split, impl.StateResult{Good: true, State: want})
}

// fitsInBytes tells whether the bytes of a state, faulty or not, tell just that one.
func fitsInBytes(s impl.TicketState) bool {
	return len(s.Psk) == 32 && len(s.Random) == 32 && toldBetween(s.Life, 0, lastAge) && toldBetween(s.Early, 0, lastAge) && len(s.Host) < 256 && len(s.Protocol) < 256
}

// Bytes that would be a faulty state: nothing is told of it.
func TestDecodeStateOfFaultyOnes(t *testing.T) {
	r := rand.New(rand.NewSource(346))
	seen := map[int64]int{}
	for _, one := range stateChanges() {
		s := one.of(randomTicketState(r))
		if one.rule != 0 && fitsInBytes(s) {
			checkDecodedState(t, "a faulty state", toldStateBytes(s), impl.StateResult{})
			seen[one.rule]++
		}
	}
	// A wrong Early does not fit into its bytes.
	for rule := int64(2); rule <= 5; rule++ {
		if seen[rule] < 3 {
			t.Errorf("the rule %d was broken %d times", rule, seen[rule])
		}
	}
}

// The numbers at the ends of their limits and one beyond them, as bytes.
func TestDecodeStateNumbers(t *testing.T) {
	form := toldStateForm(plainState())
	for _, row := range []struct {
		place int
		bytes []byte
		good  bool
	}{
		{64, toldInBytes(0, 8), true}, {64, toldInBytes(lastTime, 8), true}, {64, toldInBytes(lastTime+1, 8), false}, {64, full(8), false},
		{64, []byte{128, 0, 0, 0, 0, 0, 0, 0}, false}, {64, []byte{127, 255, 255, 255, 255, 255, 255, 255}, false}, {64, []byte{1, 0, 0, 0, 0, 0, 0, 5}, false},
		{64, []byte{0, 1, 0, 0, 0, 0, 0, 5}, false}, {64, []byte{0, 0, 1, 0, 0, 0, 0, 5}, false},
		{72, toldInBytes(0, 4), false}, {72, toldInBytes(1, 4), true}, {72, toldInBytes(lastLife, 4), true}, {72, toldInBytes(lastLife+1, 4), false},
		{72, full(4), false}, {72, []byte{128, 0, 0, 1}, false}, {72, []byte{1, 0, 0, 1}, false},
		{76, toldInBytes(0, 4), true}, {76, toldInBytes(lastAge, 4), true}, {76, []byte{128, 0, 0, 0}, true},
	} {
		b := bytes.Clone(form)
		copy(b[row.place:], row.bytes)
		want := toldDecodeState(b)
		if want.Good != row.good {
			t.Fatalf("%x at %d is told as %v", row.bytes, row.place, want.Good)
		}
		checkDecodedState(t, "a number", b, want)
	}
}

// What is told has that one form, whatever the bytes are.
func TestDecodeStateOneForm(t *testing.T) {
	r := rand.New(rand.NewSource(347))
	good := 0
	for range 3000 {
		b := toldStateForm(randomTicketState(r))
		for range 1 + r.Intn(3) {
			b[r.Intn(len(b))] = byte(r.Intn(256))
		}
		if r.Intn(2) == 0 {
			b[64+r.Intn(len(b)-64)] = byte(r.Intn(4))
		}
		want := toldDecodeState(b)
		checkDecodedState(t, "some bytes changed", b, want)
		got := impl.DecodeState(b)
		if got.Good {
			good++
			checkList(t, "the form of what was told", impl.EncodeState(got.State), b)
		}
	}
	if good < 200 || good > 2900 {
		t.Errorf("%d of 3000 were good", good)
	}
}
