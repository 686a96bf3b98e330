package tests

import (
	"bytes"
	"fmt"
	"math"
	"math/big"
	"math/rand"
	"slices"
	"strings"

	"loop.example/g00004/impl"
)

// Chapter 16 done another way: states by their places in the bytes, the seal as the tests of chapter 8 tell it, ages as
// numbers without a bound, and windows as lists that are gone through.

const lastTime = 253402300799
const lastLife = 604800
const lastWidth = 86400
const lastAge = 4294967295
const lastMarkEnd = lastTime + 2*lastWidth
const mostMarks = 64

func toldBetween(v int64, least int64, most int64) bool {
	return least <= v && v <= most
}

func toldStateFault(s impl.TicketState) int64 {
	for i, holds := range []bool{
		len(s.Psk) == 32 && len(s.Random) == 32,
		toldBetween(s.Made, 0, lastTime),
		toldBetween(s.Life, 1, lastLife),
		toldNameFault(s.Host) == 0,
		len(s.Protocol) <= 32,
		toldBetween(s.Early, 0, lastAge),
	} {
		if !holds {
			return int64(i + 1)
		}
	}
	return 0
}

// toldStateBytes also has bytes for a faulty state, as far as its numbers and lengths fit.
func toldStateBytes(s impl.TicketState) []byte {
	return slices.Concat(s.Psk, s.Random, toldInBytes(s.Made, 8), toldInBytes(s.Life, 4), toldInBytes(s.Early, 4), toldShortText(s.Host), toldShortText(s.Protocol))
}

func toldStateForm(s impl.TicketState) []byte {
	if toldStateFault(s) != 0 {
		return nil
	}
	return toldStateBytes(s)
}

// toldDecodeState asks for the lengths first, and then for each field at its place.
func toldDecodeState(b []byte) impl.StateResult {
	if len(b) < 82 {
		return impl.StateResult{}
	}
	hostEnd := 81 + int(b[80])
	if len(b) <= hostEnd || len(b) != hostEnd+1+int(b[hostEnd]) {
		return impl.StateResult{}
	}
	made := bigOf(b[64:72])
	if made.Cmp(big.NewInt(lastTime)) > 0 {
		return impl.StateResult{}
	}
	s := impl.TicketState{
		Psk:      b[:32],
		Random:   b[32:64],
		Made:     made.Int64(),
		Life:     bigOf(b[72:76]).Int64(),
		Host:     string(b[81:hostEnd]),
		Protocol: string(b[hostEnd+1:]),
		Early:    bigOf(b[76:80]).Int64(),
	}
	if toldStateFault(s) != 0 {
		return impl.StateResult{}
	}
	return impl.StateResult{Good: true, State: s}
}

func toldTicketKey(key []byte, nonce []byte) bool {
	return len(key) == 32 && len(nonce) == 12
}

func toldTicket(key []byte, nonce []byte, s impl.TicketState) []byte {
	if toldStateFault(s) != 0 || !toldTicketKey(key, nonce) {
		return nil
	}
	return toldTicketOf(key, nonce, toldStateBytes(s))
}

// toldTicketOf seals anything as a ticket.
func toldTicketOf(key []byte, nonce []byte, inside []byte) []byte {
	return slices.Concat(nonce, toldSeal(key, nonce, []byte("ticket"), inside))
}

// ticketOf is the same by the program's seal, which the tests of chapter 8 hold to the told one.
func ticketOf(key []byte, nonce []byte, inside []byte) []byte {
	return slices.Concat(nonce, impl.Seal(key, nonce, []byte("ticket"), inside))
}

func toldOpenTicket(key []byte, ticket []byte) impl.StateResult {
	if len(key) != 32 || len(ticket) < 28 {
		return impl.StateResult{}
	}
	nonce, text, sum := ticket[:12], ticket[12:len(ticket)-16], ticket[len(ticket)-16:]
	if !bytes.Equal(toldSealSum(key, nonce, []byte("ticket"), text), sum) {
		return impl.StateResult{}
	}
	return toldDecodeState(toldStream(key, 1, nonce, text))
}

func sameTicketState(a impl.TicketState, b impl.TicketState) bool {
	return bytes.Equal(a.Psk, b.Psk) && bytes.Equal(a.Random, b.Random) && a.Made == b.Made && a.Life == b.Life && a.Host == b.Host &&
		a.Protocol == b.Protocol && a.Early == b.Early
}

func stateInShort(s impl.TicketState) string {
	return fmt.Sprintf("state with psk %x, random %x, made %d, life %d, host %.140q, protocol %.40q, early %d", beginning(s.Psk), beginning(s.Random), s.Made, s.Life, s.Host,
		s.Protocol, s.Early)
}

func windowInShort(w impl.Window) string {
	text := fmt.Sprintf("window of width %d with %d marks", w.Width, len(w.Marks))
	for _, mark := range w.Marks[:min(len(w.Marks), mostMarks+1)] {
		text += fmt.Sprintf(" %x:%d", beginning(mark.Id), mark.Until)
	}
	return text
}

func sameStateResult(a impl.StateResult, b impl.StateResult) bool {
	return a.Good == b.Good && sameTicketState(a.State, b.State)
}

func roundOf32() *big.Int {
	return new(big.Int).Lsh(big.NewInt(1), 32)
}

func toldAge(random []byte, seconds int64) int64 {
	if len(random) != 32 || !toldBetween(seconds, 0, lastAge) {
		return -1
	}
	sum := new(big.Int).Add(big.NewInt(seconds), bigOf(random[:4]))
	return sum.Mod(sum, roundOf32()).Int64()
}

func toldFresh(random []byte, age int64, seconds int64, width int64) bool {
	if len(random) != 32 || !toldBetween(age, 0, lastAge) || !toldBetween(seconds, 0, lastAge) || !toldBetween(width, 0, lastWidth) {
		return false
	}
	a := new(big.Int).Sub(big.NewInt(age), bigOf(random[:4]))
	a.Mod(a, roundOf32())
	return a.Sub(a, big.NewInt(seconds)).CmpAbs(big.NewInt(width)) <= 0
}

func toldIdsWrong(marks []impl.Mark) bool {
	for i, mark := range marks {
		if len(mark.Id) != 32 {
			return true
		}
		for _, other := range marks[:i] {
			if bytes.Equal(mark.Id, other.Id) {
				return true
			}
		}
	}
	return false
}

func toldUntilsWrong(marks []impl.Mark) bool {
	return slices.ContainsFunc(marks, func(mark impl.Mark) bool { return !toldBetween(mark.Until, 0, lastMarkEnd) })
}

func toldWindowFault(w impl.Window) int64 {
	switch {
	case !toldBetween(w.Width, 0, lastWidth):
		return 1
	case len(w.Marks) > mostMarks:
		return 2
	case toldIdsWrong(w.Marks):
		return 3
	case toldUntilsWrong(w.Marks):
		return 4
	}
	return 0
}

func hasId(marks []impl.Mark, id []byte) bool {
	return slices.ContainsFunc(marks, func(mark impl.Mark) bool { return bytes.Equal(mark.Id, id) })
}

func toldAsk(w impl.Window, id []byte, now int64) impl.WindowAnswer {
	if toldWindowFault(w) != 0 || len(id) != 32 || !toldBetween(now, 0, lastTime) {
		return impl.WindowAnswer{Code: 3}
	}
	var marks []impl.Mark
	for _, mark := range w.Marks {
		if mark.Until >= now {
			marks = append(marks, mark)
		}
	}
	told := impl.WindowAnswer{Window: impl.Window{Width: w.Width, Marks: marks}}
	switch {
	case hasId(marks, id):
		told.Code = 1
	case len(marks) == mostMarks:
		told.Code = 2
	default:
		told.Window.Marks = append(marks, impl.Mark{Id: id, Until: now + w.Width + w.Width})
	}
	return told
}

func sameMark(a impl.Mark, b impl.Mark) bool {
	return bytes.Equal(a.Id, b.Id) && a.Until == b.Until
}

func sameWindow(a impl.Window, b impl.Window) bool {
	return a.Width == b.Width && slices.EqualFunc(a.Marks, b.Marks, sameMark)
}

func sameWindowAnswer(a impl.WindowAnswer, b impl.WindowAnswer) bool {
	return a.Code == b.Code && sameWindow(a.Window, b.Window)
}

func cloneWindow(w impl.Window) impl.Window {
	clone := impl.Window{Width: w.Width}
	for _, mark := range w.Marks {
		clone.Marks = append(clone.Marks, impl.Mark{Id: bytes.Clone(mark.Id), Until: mark.Until})
	}
	return clone
}

// plainState is without fault, each of its fields unlike the others.
func plainState() impl.TicketState {
	return impl.TicketState{Psk: upwards(32), Random: full(32), Made: 1700000000, Life: 3600, Host: "shop.example", Protocol: "h2", Early: 4096}
}

func stateTimes() []int64 {
	return []int64{0, 1, 255, 256, 1<<32 - 1, 1 << 32, lastTime - 1, lastTime}
}

func stateLives() []int64 {
	return []int64{1, 2, 255, 256, lastLife - 1, lastLife}
}

func stateEarlies() []int64 {
	return []int64{0, 1, 4096, 1<<31 - 1, 1 << 31, lastAge - 1, lastAge}
}

// stateHosts have the least and the greatest length among them.
func stateHosts() []string {
	return []string{"a", "0", "shop.example", "a.b.c", longName(63), longName(127), longName(128)}
}

// stateProtocols are any bytes, such as look like lengths among them.
func stateProtocols() []string {
	return []string{"", "h", "h2", "\x00", "\xff", "\x01a", "A. B", strings.Repeat("p", 31), strings.Repeat("p", 32), strings.Repeat("\x00", 32), strings.Repeat("\xff", 32)}
}

// randomTicketState is without fault, with ends of limits more often than chance has them.
func randomTicketState(r *rand.Rand) impl.TicketState {
	host := stateHosts()[r.Intn(len(stateHosts()))]
	if r.Intn(2) == 0 {
		host = randomName(r)
	}
	protocol := stateProtocols()[r.Intn(len(stateProtocols()))]
	if r.Intn(2) == 0 {
		protocol = string(randomList(r, r.Intn(33)))
	}
	return impl.TicketState{
		Psk:      randomList(r, 32),
		Random:   randomList(r, 32),
		Made:     edgeOr(r, stateTimes(), lastTime),
		Life:     1 + edgeOr(r, []int64{0, 1, lastLife - 2, lastLife - 1}, lastLife-1),
		Host:     host,
		Protocol: protocol,
		Early:    edgeOr(r, stateEarlies(), lastAge),
	}
}

// stateEnds have each pair of ends of the limits.
func stateEnds(r *rand.Rand) []impl.TicketState {
	var all []impl.TicketState
	for _, host := range []string{"a", longName(128)} {
		for _, protocol := range []string{"", strings.Repeat("p", 32)} {
			for _, made := range []int64{0, lastTime} {
				for _, life := range []int64{1, lastLife} {
					for _, early := range []int64{0, lastAge} {
						all = append(all, impl.TicketState{Psk: randomList(r, 32), Random: randomList(r, 32), Made: made, Life: life, Host: host, Protocol: protocol, Early: early})
					}
				}
			}
		}
	}
	return all
}

// outsideOf are numbers that are not within the limits, but may have the lowest bits of one that is.
func outsideOf(least int64, most int64) []int64 {
	numbers := append(strangeNumbers(), least-1, least-2, most+1, most+2, 2*most, -most, -1, math.MinInt64+1, math.MaxInt64-1, 1<<40, 1<<48, -1<<40, 1<<62,
		least+1<<32, most+1<<32, least+1<<40, least|math.MinInt64, most|math.MinInt64)
	return slices.DeleteFunc(numbers, func(v int64) bool { return toldBetween(v, least, most) })
}

// insideOfLimits are their ends, and what stands beside these.
func insideOfLimits(least int64, most int64) []int64 {
	return []int64{least, least + 1, most / 2, most - 1, most}
}

// numberedId differs from another in its last bytes alone.
func numberedId(n int) []byte {
	return append(make([]byte, 28), toldInBytes(int64(n), 4)...)
}

// windowOf has marks of numbered ids with these ends.
func windowOf(width int64, untils ...int64) impl.Window {
	w := impl.Window{Width: width}
	for i, until := range untils {
		w.Marks = append(w.Marks, impl.Mark{Id: numberedId(i), Until: until})
	}
	return w
}

// sameUntils are so many ends that are all the same.
func sameUntils(count int, until int64) []int64 {
	return slices.Repeat([]int64{until}, count)
}

// randomWindow is without fault, its ends around a time.
func randomWindow(r *rand.Rand, count int, around int64) impl.Window {
	w := impl.Window{Width: edgeOr(r, []int64{0, 1, 10, lastWidth - 1, lastWidth}, 100)}
	for range count {
		until := around + r.Int63n(7) - 3
		if r.Intn(8) == 0 {
			until = edgeOr(r, []int64{0, 1, lastTime, lastMarkEnd - 1, lastMarkEnd}, lastMarkEnd)
		}
		w.Marks = append(w.Marks, impl.Mark{Id: randomList(r, 32), Until: min(max(until, 0), lastMarkEnd)})
	}
	return w
}
