package tests

import (
	"bytes"
	"math"
	"math/rand"
	"slices"
	"testing"

	"loop.example/g00004/impl"
)

// What chapter 6 says of data that come piece by piece.

// toldState is the state behind all of the data.
func toldState(m toldMake, data []byte) impl.HashState {
	whole := len(data) / m.block * m.block
	return impl.HashState{
		Length: int64(len(data)),
		Words:  m.bytes(m.behindBlocks(m.startWords, data[:whole])),
		Rest:   bytes.Clone(data[whole:]),
	}
}

// toldMore goes on from a state, whatever data may have led to it.
func toldMore(m toldMake, h impl.HashState, data []byte) impl.HashState {
	all := slices.Concat(h.Rest, data)
	whole := len(all) / m.block * m.block
	return impl.HashState{
		Length: h.Length + int64(len(data)),
		Words:  m.bytes(m.behindBlocks(m.readWords(h.Words), all[:whole])),
		Rest:   bytes.Clone(all[whole:]),
	}
}

func toldEnd(m toldMake, h impl.HashState) []byte {
	return toldMore(m, h, m.pad(h.Length)).Words
}

func sameState(a impl.HashState, b impl.HashState) bool {
	return a.Length == b.Length && bytes.Equal(a.Words, b.Words) && bytes.Equal(a.Rest, b.Rest)
}

func checkState(t *testing.T, what string, got impl.HashState, want impl.HashState) {
	t.Helper()
	if !sameState(got, want) {
		t.Errorf("%s: got %d %x %x, want %d %x %x", what, got.Length, got.Words, got.Rest, want.Length, want.Words, want.Rest)
	}
}

func cloneState(h impl.HashState) impl.HashState {
	return impl.HashState{Length: h.Length, Words: bytes.Clone(h.Words), Rest: bytes.Clone(h.Rest)}
}

// checkNoState asks for a state that is not valid, or that the data would bring above MaxHashed.
func checkNoState(t *testing.T, h impl.HashState, data []byte) {
	t.Helper()
	checkState(t, "refused state", impl.HashMore(h, data), impl.HashState{})
}

func checkNotValid(t *testing.T, h impl.HashState) {
	t.Helper()
	for _, data := range [][]byte{nil, {7}, make([]byte, 64), full(200)} {
		checkNoState(t, h, data)
	}
	if got := impl.HashEnd(h); len(got) != 0 {
		t.Errorf("end of %d %x %x: got %x", h.Length, h.Words, h.Rest, got)
	}
}

// prefixes are the told state and the told hash of each beginning of some data.
type prefixes struct {
	data   []byte
	states []impl.HashState
	hashes [][]byte
}

func prefixesOf(m toldMake, data []byte) prefixes {
	p := prefixes{data: data}
	for n := range len(data) + 1 {
		p.states = append(p.states, toldState(m, data[:n]))
		p.hashes = append(p.hashes, m.hash(data[:n]))
	}
	return p
}

// checkPieces hands on the data from one place to the next, up to the last one.
func (p prefixes) checkPieces(t *testing.T, places ...int) {
	t.Helper()
	h, from := impl.HashStart(), 0
	for _, place := range places {
		h = impl.HashMore(h, p.data[from:place])
		checkState(t, "behind a piece", h, p.states[place])
		from = place
	}
	checkList(t, "end of pieces", impl.HashEnd(h), p.hashes[from])
	checkList(t, "hash of the whole", impl.Hash(p.data[:from]), p.hashes[from])
}

func TestHashStart(t *testing.T) {
	short := toldShort()
	checkState(t, "start", impl.HashStart(), toldState(short, nil))
	checkState(t, "start and nothing", impl.HashMore(impl.HashStart(), nil), impl.HashStart())
	checkState(t, "start and an empty list", impl.HashMore(impl.HashStart(), []byte{}), impl.HashStart())
	checkList(t, "end of the start", impl.HashEnd(impl.HashStart()), impl.Hash(nil))
}

func TestPromise10TwoPieces(t *testing.T) {
	r := rand.New(rand.NewSource(59))
	p := prefixesOf(toldShort(), randomList(r, 330))
	for n := range len(p.data) + 1 {
		for cut := range n + 1 {
			p.checkPieces(t, cut, n)
		}
	}
}

func TestPromise10ThreePieces(t *testing.T) {
	r := rand.New(rand.NewSource(60))
	p := prefixesOf(toldShort(), randomList(r, 200))
	edges := []int{0, 1, 2, 55, 56, 62, 63, 64, 65, 66, 119, 120, 126, 127, 128, 129, 191, 192, 193, 200}
	for i, first := range edges {
		for j, second := range edges[i:] {
			for _, third := range edges[i+j:] {
				p.checkPieces(t, first, second, third)
			}
		}
	}
}

func TestPromise10ManyPieces(t *testing.T) {
	r := rand.New(rand.NewSource(61))
	p := prefixesOf(toldShort(), randomList(r, 700))
	for size := 1; size < 260; size++ {
		var places []int
		for place := 0; place <= len(p.data); place += size {
			places = append(places, place)
		}
		p.checkPieces(t, append(places, len(p.data))...)
	}
	for range 1000 {
		places := make([]int, 1+r.Intn(20))
		for i := range places {
			places[i] = r.Intn(len(p.data) + 1)
		}
		slices.Sort(places)
		// Each place twice: an empty piece behind each.
		twice := append(slices.Clone(places), places...)
		slices.Sort(twice)
		p.checkPieces(t, places...)
		p.checkPieces(t, twice...)
	}
}

func TestPromise10LongData(t *testing.T) {
	r := rand.New(rand.NewSource(62))
	for range 10 {
		data := randomList(r, 100000+r.Intn(100000))
		h := impl.HashStart()
		for rest := data; len(rest) > 0; {
			size := min(len(rest), r.Intn(5000))
			h = impl.HashMore(h, rest[:size])
			rest = rest[size:]
		}
		if got, want := impl.HashEnd(h), libraryShort(data); h.Length != int64(len(data)) || !bytes.Equal(got, want) {
			t.Errorf("%d bytes in pieces: got %d %x, want %x", len(data), h.Length, got, want)
		}
	}
}

// A state that has ended may still end again, and go on in more than one way.
func TestHashStateGoesOnTwoWays(t *testing.T) {
	short := toldShort()
	r := rand.New(rand.NewSource(63))
	for n := range 200 {
		data, one, other := randomList(r, n), randomList(r, r.Intn(150)), randomList(r, r.Intn(150))
		h := impl.HashMore(impl.HashStart(), data)
		before := cloneState(h)
		first := impl.HashEnd(h)
		checkList(t, "first end", first, short.hash(data), data)
		a := impl.HashMore(h, one)
		b := impl.HashMore(h, other)
		checkState(t, "state that went on", h, before)
		checkList(t, "second end", impl.HashEnd(h), first, data)
		checkState(t, "one way", a, toldState(short, slices.Concat(data, one)))
		checkState(t, "other way", b, toldState(short, slices.Concat(data, other)))
		checkList(t, "end of the one", impl.HashEnd(a), impl.Hash(slices.Concat(data, one)), data, one)
		checkList(t, "end of the other", impl.HashEnd(b), impl.Hash(slices.Concat(data, other)), data, other)
	}
}

// randomState is valid, though no data may lead to its words.
func randomState(r *rand.Rand, length int64) impl.HashState {
	return impl.HashState{Length: length, Words: randomList(r, 32), Rest: randomList(r, int(length%64))}
}

func checkValid(t *testing.T, m toldMake, h impl.HashState, data []byte) {
	t.Helper()
	more := impl.HashMore(h, data)
	checkState(t, "state that goes on", more, toldMore(m, h, data))
	checkList(t, "end", impl.HashEnd(h), toldEnd(m, h), h.Words, h.Rest)
	checkList(t, "end of more", impl.HashEnd(more), toldEnd(m, more), more.Words, more.Rest)
}

func TestHashStateOfAnyWords(t *testing.T) {
	short := toldShort()
	r := rand.New(rand.NewSource(64))
	for n := range int64(300) {
		checkValid(t, short, randomState(r, n), randomList(r, r.Intn(300)))
		checkValid(t, short, randomState(r, r.Int63n(impl.MaxHashed-300)), randomList(r, r.Intn(300)))
	}
	for _, words := range [][]byte{make([]byte, 32), full(32)} {
		h := impl.HashState{Length: 128, Words: words}
		checkValid(t, short, h, nil)
		checkValid(t, short, h, full(64))
		checkValid(t, short, h, make([]byte, 65))
	}
}

// A state just below the limit takes what is left of it, and not a byte more.
func TestHashStateAtTheLimit(t *testing.T) {
	short := toldShort()
	r := rand.New(rand.NewSource(65))
	for left := range 330 {
		h := randomState(r, impl.MaxHashed-int64(left))
		data := randomList(r, left+1)
		checkValid(t, short, h, data[:left])
		checkValid(t, short, h, nil)
		checkValid(t, short, h, data[:left/2])
		if got := impl.HashMore(h, data[:left]); got.Length != impl.MaxHashed || len(got.Rest) != 0 {
			t.Errorf("%d bytes up to the limit: got %d and %x", left, got.Length, got.Rest)
		}
		checkNoState(t, h, data)
		checkNoState(t, h, randomList(r, left+2))
		checkNoState(t, h, randomList(r, left+63+r.Intn(200)))
	}
}

func TestHashStateWithOtherLength(t *testing.T) {
	r := rand.New(rand.NewSource(66))
	lengths := []int64{math.MinInt64, math.MinInt64 + 1, math.MinInt64 + 64, math.MaxInt64, math.MaxInt64 - 63, math.MaxInt64 - 64}
	for n := range int64(130) {
		lengths = append(lengths, -1-n, impl.MaxHashed+1+n)
	}
	for _, length := range lengths {
		// The rest has the size that the remainder tells, also where that is below 0, or is empty.
		for _, size := range []int64{0, length % 64, -(length % 64), (length%64 + 64) % 64} {
			checkNotValid(t, impl.HashState{Length: length, Words: randomList(r, 32), Rest: randomList(r, int(max(0, size)))})
		}
		checkNotValid(t, impl.HashState{Length: length})
	}
}

func TestHashStateWithOtherWords(t *testing.T) {
	r := rand.New(rand.NewSource(67))
	for n := range 130 {
		if n == impl.HashSize {
			continue
		}
		for _, length := range []int64{0, 1, 63, 64, 100, impl.MaxHashed - 1, impl.MaxHashed} {
			checkNotValid(t, impl.HashState{Length: length, Words: randomList(r, n), Rest: randomList(r, int(length%64))})
		}
	}
	checkNotValid(t, impl.HashState{})
}

func TestHashStateWithOtherRest(t *testing.T) {
	r := rand.New(rand.NewSource(68))
	for length := range int64(200) {
		for size := range 200 {
			h := impl.HashState{Length: length, Words: randomList(r, 32), Rest: randomList(r, size)}
			if size == int(length%64) {
				if got := impl.HashMore(h, nil); !sameState(got, h) {
					t.Errorf("state of length %d and nothing more: got %d %x %x", length, got.Length, got.Words, got.Rest)
				}
				continue
			}
			checkState(t, "state with another rest", impl.HashMore(h, nil), impl.HashState{})
			if got := impl.HashEnd(h); len(got) != 0 {
				t.Errorf("end of length %d with a rest of %d: got %x", length, size, got)
			}
		}
	}
	for _, length := range []int64{63, 64, 65, impl.MaxHashed - 2, impl.MaxHashed - 1, impl.MaxHashed} {
		h := randomState(r, length)
		more, less := cloneState(h), cloneState(h)
		more.Rest = append(more.Rest, 1)
		checkNotValid(t, more)
		if len(less.Rest) > 0 {
			less.Rest = less.Rest[1:]
			checkNotValid(t, less)
		}
	}
}

// stateLists asks both calls of a state whose lists are the first two arguments.
func stateLists(length int64) func(args [][]byte) [][]byte {
	return func(args [][]byte) [][]byte {
		h := impl.HashState{Length: length, Words: args[0], Rest: args[1]}
		more := impl.HashMore(h, args[2])
		again := impl.HashMore(more, args[2])
		return [][]byte{more.Words, more.Rest, again.Words, again.Rest, impl.HashEnd(h), impl.HashEnd(more)}
	}
}

func TestHashStateMemory(t *testing.T) {
	r := rand.New(rand.NewSource(69))
	for length := range int64(140) {
		for _, size := range []int{0, 1, 20, 63, 64, 65, 128, 200} {
			h := randomState(r, length)
			checkMemory(t, "state", stateLists(length), h.Words, h.Rest, randomList(r, size))
		}
		// Of a state that is not valid, or that would go beyond the limit, nothing is kept or changed either.
		checkMemory(t, "not valid", stateLists(length+1), randomList(r, 32), randomList(r, int(length%64)), randomList(r, 80))
		checkMemory(t, "not valid", stateLists(length), randomList(r, 31), randomList(r, int(length%64)), randomList(r, 80))
		h := randomState(r, impl.MaxHashed-length)
		checkMemory(t, "at the limit", stateLists(h.Length), h.Words, h.Rest, randomList(r, int(length)))
		checkMemory(t, "beyond the limit", stateLists(h.Length), h.Words, h.Rest, randomList(r, int(length)+1))
	}
	start := func([][]byte) [][]byte {
		one, other := impl.HashStart(), impl.HashStart()
		return [][]byte{one.Words, one.Rest, other.Words, other.Rest}
	}
	checkMemory(t, "start", start)
}

// Lists that stand side by side in one, each in the room behind the other.
func TestHashStateFromOneList(t *testing.T) {
	short := toldShort()
	r := rand.New(rand.NewSource(70))
	for length := range int64(130) {
		rest := int(length % 64)
		one := randomList(r, 32+rest+150)
		before := bytes.Clone(one)
		h := impl.HashState{Length: length, Words: one[:32], Rest: one[32 : 32+rest]}
		checkValid(t, short, h, one[32+rest:])
		checkValid(t, short, h, one)
		checkValid(t, short, h, h.Rest)
		checkValid(t, short, h, h.Words)
		checkList(t, "argument", one, before)
		// The data first, the state in the room behind them.
		turned := impl.HashState{Length: length, Words: one[150 : 150+32], Rest: one[150+32:]}
		checkValid(t, short, turned, one[:150])
		checkList(t, "argument", one, before)
	}
}
