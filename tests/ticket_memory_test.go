package tests

import (
	"bytes"
	"math/rand"
	"slices"
	"testing"

	"loop.example/g00004/impl"
)

// The general rules 2 to 4 for chapter 16, the marks of a window included.

// guardedMarks is a list with known marks ahead of it and in the room behind it, each id guarded itself.
type guardedMarks struct {
	list   []impl.Mark
	whole  []impl.Mark
	before []impl.Mark
	ids    []guardedList
}

func strangeMarks(n int) []impl.Mark {
	return []impl.Mark{{Id: upwards(n), Until: int64(n)}, {Id: full(n + 1), Until: -int64(n)}}
}

func guardMarks(marks []impl.Mark) guardedMarks {
	var g guardedMarks
	for _, mark := range slices.Concat(strangeMarks(32), marks, strangeMarks(40)) {
		id := guard(mark.Id)
		g.ids = append(g.ids, id)
		g.whole = append(g.whole, impl.Mark{Id: id.list, Until: mark.Until})
		g.before = append(g.before, impl.Mark{Id: bytes.Clone(mark.Id), Until: mark.Until})
	}
	g.list = g.whole[2 : 2+len(marks)]
	return g
}

func (g guardedMarks) changed() bool {
	return anyChanged(g.ids) || !slices.EqualFunc(g.whole, g.before, sameMark)
}

func listsOfState(s impl.TicketState) [][]byte {
	return [][]byte{s.Psk, s.Random}
}

func idsOf(w impl.Window) [][]byte {
	var ids [][]byte
	for _, mark := range w.Marks {
		ids = append(ids, mark.Id)
	}
	return ids
}

// withSecrets is a state with other lists.
func withSecrets(s impl.TicketState, psk []byte, random []byte) impl.TicketState {
	s.Psk, s.Random = psk, random
	return s
}

func memoryStates(r *rand.Rand) []impl.TicketState {
	states := append(stateEnds(r), plainState(), impl.TicketState{}, randomTicketState(r))
	for _, one := range fewStateChanges(r, 2) {
		states = append(states, one.of(randomTicketState(r)))
	}
	return states
}

func TestStateMemory(t *testing.T) {
	r := rand.New(rand.NewSource(379))
	for _, s := range memoryStates(r) {
		checkApart(t, "encoding a state", func(args [][]byte) [][]byte {
			same := withSecrets(s, args[0], args[1])
			if got := impl.StateFault(same); got != toldStateFault(s) {
				t.Errorf("%s with room behind: the fault %d", stateInShort(s), got)
			}
			return [][]byte{impl.EncodeState(same), impl.EncodeState(same)}
		}, s.Psk, s.Random)
	}
}

func ofDecodeState(args [][]byte) [][]byte {
	return append(listsOfState(impl.DecodeState(args[0]).State), listsOfState(impl.DecodeState(args[0]).State)...)
}

func TestDecodeStateMemory(t *testing.T) {
	r := rand.New(rand.NewSource(380))
	for _, s := range append(stateEnds(r), plainState(), randomTicketState(r)) {
		form := toldStateForm(s)
		checkApart(t, "decoding a state", ofDecodeState, form)
		checkApart(t, "decoding less", ofDecodeState, form[:len(form)-1])
		checkApart(t, "decoding more", ofDecodeState, append(bytes.Clone(form), 0))
	}
	checkApart(t, "decoding nothing", ofDecodeState, nil)
}

// The texts that are told stay what they are when the bytes change later.
func TestDecodeStateTextsApart(t *testing.T) {
	r := rand.New(rand.NewSource(381))
	for range 50 {
		s := randomTicketState(r)
		form := toldStateForm(s)
		got := impl.DecodeState(form)
		spoil(form)
		if !sameStateResult(got, impl.StateResult{Good: true, State: s}) {
			t.Errorf("%s was changed with its bytes", stateInShort(s))
		}
	}
}

func TestSealTicketMemory(t *testing.T) {
	r := rand.New(rand.NewSource(382))
	for _, s := range memoryStates(r) {
		for _, sizes := range [][2]int{{32, 12}, {31, 12}, {32, 13}, {0, 0}} {
			checkApart(t, "sealing a ticket", func(args [][]byte) [][]byte {
				same := withSecrets(s, args[2], args[3])
				return [][]byte{impl.SealTicket(args[0], args[1], same), impl.SealTicket(args[0], args[1], same)}
			}, randomList(r, sizes[0]), randomList(r, sizes[1]), s.Psk, s.Random)
		}
	}
}

func ofOpenTicket(args [][]byte) [][]byte {
	return append(listsOfState(impl.OpenTicket(args[0], args[1]).State), listsOfState(impl.OpenTicket(args[0], args[1]).State)...)
}

func TestOpenTicketMemory(t *testing.T) {
	r := rand.New(rand.NewSource(383))
	for _, s := range append(stateEnds(r), plainState(), randomTicketState(r)) {
		key := randomList(r, 32)
		ticket := impl.SealTicket(key, randomList(r, 12), s)
		checkApart(t, "opening a ticket", ofOpenTicket, key, ticket)
		checkApart(t, "opening what is none", ofOpenTicket, key, withBit(ticket, r.Intn(8*len(ticket))))
		checkApart(t, "opening with another key", ofOpenTicket, key[:31], ticket)
		for _, n := range []int{0, 11, 12, 27, 28} {
			checkApart(t, "opening a short one", ofOpenTicket, key, ticket[:n])
		}
		checkApart(t, "opening a wrong inside", ofOpenTicket, key, ticketOf(key, ticket[:12], append(toldStateForm(s), 0)))
	}
}

// Key, nonce and secrets may lie in one room, each in the other.
func TestTicketsOfOneRoom(t *testing.T) {
	r := rand.New(rand.NewSource(384))
	room := randomList(r, 200)
	before := bytes.Clone(room)
	for at := range 100 {
		s := withSecrets(plainState(), room[at:at+32], room[at+7:at+39])
		checkTicketBack(t, room[at+3:at+35], room[at+20:at+32], s)
		checkList(t, "room", room, before)
	}
}

func TestAgeMemory(t *testing.T) {
	r := rand.New(rand.NewSource(385))
	for _, n := range []int{0, 4, 31, 32, 33} {
		g := guard(randomList(r, n))
		for _, seconds := range append(ageSeconds(), -1, lastAge+1) {
			if impl.TicketAge(g.list, seconds) != toldAge(g.list, seconds) || impl.FreshAge(g.list, 5, seconds, 9) != toldFresh(g.list, 5, seconds, 9) || g.changed() {
				t.Errorf("an age of %d bytes with room behind and %d seconds", n, seconds)
			}
		}
	}
}

// windowQuestion is a call of WindowAsk.
type windowQuestion struct {
	window impl.Window
	id     []byte
	now    int64
}

// windowQuestions have every code.
func windowQuestions(r *rand.Rand) []windowQuestion {
	full64 := windowOf(4, sameUntils(64, 100)...)
	questions := []windowQuestion{
		{impl.Window{Width: 3}, upwards(32), 100},
		{full64, full(32), 100},
		{full64, numberedId(9), 100},
		{full64, full(32), 101},
		{full64, numberedId(0), 101},
		{windowOf(4, 99, 100, 101, 98, 300), full(32), 100},
		{windowOf(4, 99, 100, 101, 98, 300), numberedId(1), 100},
		{windowOf(4, 99, 100, 101, 98, 300), numberedId(3), 100},
		{windowOf(4, 99, 100), upwards(31), 100},
		{windowOf(4, 99, 100), upwards(32), -1},
		{windowOf(-1, 99, 100), upwards(32), 100},
		{windowOf(1, 99, -1), upwards(32), 100},
		{windowOf(1, sameUntils(65, 100)...), upwards(32), 100},
		{impl.Window{Marks: make([]impl.Mark, 3)}, nil, 0},
	}
	for range 40 {
		w := randomWindow(r, 1+r.Intn(64), 100)
		questions = append(questions, windowQuestion{w, randomList(r, 32), 100}, windowQuestion{w, w.Marks[r.Intn(len(w.Marks))].Id, 100})
	}
	return questions
}

// spoilWindow leaves nothing of a window as it was, the room behind its marks included.
func spoilWindow(w *impl.Window) {
	for _, id := range idsOf(*w) {
		spoil(id)
	}
	room := w.Marks[:cap(w.Marks)]
	for i := range room {
		room[i] = impl.Mark{Id: []byte("spoilt"), Until: -1}
	}
	*w = impl.Window{Width: -1}
}

func TestWindowMemory(t *testing.T) {
	r := rand.New(rand.NewSource(386))
	for _, q := range windowQuestions(r) {
		marks, id := guardMarks(q.window.Marks), guard(q.id)
		w := impl.Window{Width: q.window.Width, Marks: marks.list}
		want := toldAsk(cloneWindow(q.window), bytes.Clone(q.id), q.now)
		if got := impl.WindowFault(w); got != toldWindowFault(q.window) || marks.changed() {
			t.Errorf("%s with room behind: the fault %d", windowInShort(q.window), got)
		}
		first, second := impl.WindowAsk(w, id.list, q.now), impl.WindowAsk(w, id.list, q.now)
		if !sameWindowAnswer(first, want) || marks.changed() || id.changed() {
			t.Errorf("%s with room behind: changed, or got %d and %s", windowInShort(q.window), first.Code, windowInShort(first.Window))
		}
		spoilWindow(&first.Window)
		if !sameWindowAnswer(second, want) || marks.changed() || id.changed() {
			t.Errorf("%s: two answers, or an answer and an argument share memory", windowInShort(q.window))
		}
		spoilWindow(&second.Window)
		if third := impl.WindowAsk(w, id.list, q.now); !sameWindowAnswer(third, want) || marks.changed() || id.changed() {
			t.Errorf("%s: asked again, got %d and %s", windowInShort(q.window), third.Code, windowInShort(third.Window))
		}
	}
}

// ofWindowAsk has the id and the ids of the marks as arguments.
func ofWindowAsk(q windowQuestion) func(args [][]byte) [][]byte {
	return func(args [][]byte) [][]byte {
		w := cloneWindow(q.window)
		for i := range w.Marks {
			w.Marks[i].Id = args[i+1]
		}
		return append(idsOf(impl.WindowAsk(w, args[0], q.now).Window), idsOf(impl.WindowAsk(w, args[0], q.now).Window)...)
	}
}

// The ids of a window told are apart from each other and from those that were given.
func TestWindowIdsApart(t *testing.T) {
	r := rand.New(rand.NewSource(387))
	for _, q := range windowQuestions(r) {
		if len(q.window.Marks) < 20 {
			checkApart(t, "the ids of a window", ofWindowAsk(q), append([][]byte{q.id}, idsOf(q.window)...)...)
		}
	}
}

// A window that is told may be changed behind that, as may the id that was taken.
func TestWindowOfAnIdThatChanges(t *testing.T) {
	id := upwards(32)
	first := impl.WindowAsk(impl.Window{Width: 5}, id, 100)
	spoil(id)
	if !sameWindow(first.Window, withMark(impl.Window{Width: 5}, upwards(32), 110)) {
		t.Errorf("the mark was changed with the id: %s", windowInShort(first.Window))
	}
	longer := append(first.Window.Marks, impl.Mark{Id: full(32), Until: 7})
	second := impl.WindowAsk(first.Window, full(32), 100)
	if longer[1].Until != 7 || len(first.Window.Marks) != 1 || second.Code != 0 || second.Window.Marks[1].Until != 110 {
		t.Errorf("a mark in the room behind a window was changed")
	}
}

// The ids of a window, and the one that is asked for, may lie in one room.
func TestWindowIdsOfOneRoom(t *testing.T) {
	r := rand.New(rand.NewSource(388))
	room := randomList(r, 120)
	before := bytes.Clone(room)
	w := impl.Window{Width: 1}
	for at := range 60 {
		w.Marks = append(w.Marks, impl.Mark{Id: room[at : at+32], Until: int64(90 + at%20)})
	}
	for at := range 80 {
		checkAsk(t, "one room", w, room[at:at+32], 100, toldAsk(w, room[at:at+32], 100))
		checkList(t, "room", room, before)
	}
}
