package tests

import (
	"bytes"
	"math/rand"
	"slices"
	"testing"

	"loop.example/g00004/impl"
)

// The general rules 2 to 4 for chapter 14, and appending to what it and the chapters below it answer.

// withRoom is a copy of a list with room behind it.
func withRoom(list []byte, room int) []byte {
	return append(make([]byte, 0, len(list)+room), list...)
}

// appendEach appends to the lists, one after the other, so much that it goes into the room behind them if there is some.
func appendEach(lists [][]byte, count int) [][]byte {
	var longer [][]byte
	for i, list := range lists {
		longer = append(longer, append(list, bytes.Repeat([]byte{byte(i + 1)}, count)...))
	}
	return longer
}

// checkAppended asks that all lists, and what was appended to them, are what they were.
func checkAppended(t *testing.T, what string, lists [][]byte) {
	t.Helper()
	before := cloneLists(lists)
	for _, count := range []int{1, 2, 12, 32, 100} {
		longer := appendEach(lists, count)
		if !sameLists(lists, before) {
			t.Errorf("%s: %d bytes behind each list: got %x, want %x", what, count, lists, before)
		}
		if want := appendEach(cloneLists(before), count); !sameLists(longer, want) {
			t.Errorf("%s: %d bytes behind each list: got %x, want %x", what, count, longer, want)
		}
	}
}

// checkApart holds a call to the general rules, and then appends to the lists of two answers and to the arguments.
func checkApart(t *testing.T, what string, call func(args [][]byte) [][]byte, args ...[]byte) {
	t.Helper()
	checkMemory(t, what, call, args...)
	var given [][]byte
	for _, a := range args {
		given = append(given, withRoom(a, 200))
	}
	first := call(given)
	want := cloneLists(first)
	checkAppended(t, what, slices.Concat(given, first, call(given)))
	if again := call(given); !sameLists(again, want) {
		t.Errorf("%s of %x: got %x behind that, want %x", what, args, again, want)
	}
}

func TestScheduleMemory(t *testing.T) {
	r := rand.New(rand.NewSource(281))
	for _, c := range scheduleCalls() {
		for range 40 {
			checkApart(t, c.name, c.call, c.argumentsOf(r)...)
		}
		for _, first := range namedLengths() {
			for _, second := range namedLengths() {
				checkApart(t, c.name, c.call, [][]byte{randomList(r, first), randomList(r, second)}[:len(c.takes)]...)
			}
		}
	}
}

// allOfSchedule are the answers of all functions at once, so that none shares memory with another.
func allOfSchedule(args [][]byte) [][]byte {
	var all [][]byte
	for _, c := range scheduleCalls() {
		all = append(all, c.call(args[:len(c.takes)])...)
	}
	return all
}

func TestScheduleAnswersApart(t *testing.T) {
	r := rand.New(rand.NewSource(282))
	for _, first := range append(secretEdges(r), nil, randomList(r, 31)) {
		for _, second := range append(secretEdges(r), nil, randomList(r, 33)) {
			checkApart(t, "all", allOfSchedule, first, second)
		}
	}
}

// Both arguments may be one list, or lie in one room, each behind the other.
func TestScheduleOfOneRoom(t *testing.T) {
	r := rand.New(rand.NewSource(283))
	for range 40 {
		room := randomList(r, 64)
		before := bytes.Clone(room)
		for _, c := range scheduleCalls() {
			for _, args := range [][][]byte{{room[:32], room[32:]}, {room[32:], room[:32]}, {room[:32], room[:32]}, {room[:32], room[16:48]}} {
				c.check(t, args[:len(c.takes)]...)
			}
		}
		checkList(t, "room", room, before)
	}
}

// Key and Iv of one answer, the room behind each included.
func TestTrafficKeysApart(t *testing.T) {
	r := rand.New(rand.NewSource(284))
	for _, secret := range secretEdges(r) {
		keys, want := impl.TrafficKeys(secret), impl.TrafficKeys(secret)
		spoil(keys.Key)
		checkList(t, "iv", keys.Iv, want.Iv, secret)
		spoil(keys.Iv)
		spoil(keys.Key)
		checkList(t, "key", keys.Key, want.Key, secret)
		checkApart(t, "keys", ofKeys, secret)
	}
}

func ofHello(m impl.Message) func(args [][]byte) [][]byte {
	return func(args [][]byte) [][]byte {
		m.Random, m.Share, m.Ticket, m.Binder = args[0], args[1], args[2], args[3]
		return [][]byte{impl.HelloHead(m), impl.EncodeMessage(m)}
	}
}

func TestHelloHeadApart(t *testing.T) {
	r := rand.New(rand.NewSource(285))
	for range 60 {
		m := helloWithTicket(r)
		checkApart(t, "head", ofHello(m), m.Random, m.Share, m.Ticket, m.Binder)
	}
}

func ofDivide(args [][]byte) [][]byte {
	d := impl.NumDivide(args[0], args[1])
	return [][]byte{d.Quotient, d.Rest}
}

func ofPointAdd(args [][]byte) [][]byte {
	sum := impl.PointAdd(impl.Point{X: args[0], Y: args[1]}, impl.Point{X: args[2], Y: args[3]})
	return [][]byte{sum.X, sum.Y}
}

func TestNumbersAppended(t *testing.T) {
	r := rand.New(rand.NewSource(286))
	for range 300 {
		a, b := randomNum(r, 1+r.Intn(128)), randomNum(r, 1+r.Intn(64))
		checkApart(t, "division", ofDivide, a, b)
	}
	for _, pair := range [][2][]byte{{{7}, {0}}, {nil, {5}}, {{5}, {5}}, {{4}, {5}}, {{0, 0, 9}, {0, 2}}, {full(129), {1}}} {
		checkApart(t, "division", ofDivide, pair[0], pair[1])
	}
}

func TestPointsAppended(t *testing.T) {
	r := rand.New(rand.NewSource(287))
	points := append(smallPoints(t), basePoint(t), randomPoint(r), impl.Point{X: full(32), Y: full(32)})
	for _, p := range points {
		for _, q := range points {
			checkApart(t, "sum of points", ofPointAdd, p.X, p.Y, q.X, q.Y)
		}
	}
}

func TestHashesAppended(t *testing.T) {
	r := rand.New(rand.NewSource(288))
	for length := range int64(130) {
		h := randomState(r, length)
		checkApart(t, "state", stateLists(length), h.Words, h.Rest, randomList(r, r.Intn(200)))
		checkApart(t, "hash", ofOneList(impl.Hash), randomList(r, int(length)))
		checkApart(t, "long hash", ofOneList(impl.HashLong), randomList(r, 2*int(length)))
	}
}

func TestKeysAppended(t *testing.T) {
	r := rand.New(rand.NewSource(289))
	for range 200 {
		key, data, n := randomList(r, r.Intn(100)), randomList(r, r.Intn(150)), r.Int63n(200)
		checkApart(t, "sum", ofTwoLists(impl.Mac), key, data)
		checkApart(t, "extract", ofTwoLists(impl.Extract), key, data)
		checkApart(t, "expand", ofTwoLists(func(a []byte, b []byte) []byte { return impl.Expand(a, b, n) }), key, data)
		checkApart(t, "expand label", ofLabel("label", n), key, data)
	}
}

func TestSealsAppended(t *testing.T) {
	r := rand.New(rand.NewSource(290))
	for range 100 {
		s := sealing{randomList(r, 32), randomList(r, 12), randomList(r, r.Intn(50)), randomList(r, r.Intn(150))}
		checkApart(t, "seal", ofSeal, s.key, s.nonce, s.extra, s.plain)
		checkApart(t, "open", ofOpen, s.key, s.nonce, s.extra, s.seal())
		checkApart(t, "open", ofOpen, s.key, s.nonce, s.extra, withBit(s.seal(), 5))
	}
}

func TestSignsAppended(t *testing.T) {
	r := rand.New(rand.NewSource(291))
	for range 40 {
		checkApart(t, "sign", allSigned, randomList(r, 32), randomList(r, r.Intn(200)))
	}
	checkApart(t, "sign", allSigned, randomList(r, 31), randomList(r, 10))
}
