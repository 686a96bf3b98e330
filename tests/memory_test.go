package tests

import (
	"bytes"
	"slices"
	"testing"
)

// guardedList is a list with known bytes ahead of it and in the room behind it.
type guardedList struct {
	list   []byte
	whole  []byte
	before []byte
}

const guardSize = 16

func guard(a []byte) guardedList {
	whole := bytes.Repeat([]byte{0xa5}, guardSize+len(a)+guardSize)
	copy(whole[guardSize:], a)
	return guardedList{
		list:   whole[guardSize : guardSize+len(a)],
		whole:  whole,
		before: bytes.Clone(whole),
	}
}

func (g guardedList) changed() bool {
	return !bytes.Equal(g.whole, g.before)
}

func anyChanged(guards []guardedList) bool {
	return slices.ContainsFunc(guards, guardedList.changed)
}

// spoil turns every bit of a list and of the room behind it.
func spoil(list []byte) {
	room := list[:cap(list)]
	for i := range room {
		room[i] ^= 0xff
	}
}

func cloneLists(lists [][]byte) [][]byte {
	var clones [][]byte
	for _, list := range lists {
		clones = append(clones, bytes.Clone(list))
	}
	return clones
}

// wholeRooms are copies of the lists with the room behind them.
func wholeRooms(lists [][]byte) [][]byte {
	var rooms [][]byte
	for _, list := range lists {
		rooms = append(rooms, bytes.Clone(list[:cap(list)]))
	}
	return rooms
}

func sameLists(a [][]byte, b [][]byte) bool {
	return slices.EqualFunc(a, b, bytes.Equal)
}

// checkMemory asks call for all lists of its answer and holds it to the general rules 2 to 4: the arguments and the
// room behind them stay as they are, the lists of an answer share memory with nothing, and nothing is kept.
func checkMemory(t *testing.T, what string, call func(args [][]byte) [][]byte, args ...[]byte) {
	t.Helper()
	var guards []guardedList
	var guarded [][]byte
	for _, a := range args {
		g := guard(a)
		guards = append(guards, g)
		guarded = append(guarded, g.list)
	}
	lists := call(guarded)
	if anyChanged(guards) {
		t.Errorf("%s of %x: an argument or the room behind it was changed", what, args)
		return
	}
	first, rooms := cloneLists(lists), wholeRooms(lists)
	for i, list := range lists {
		spoil(list)
		if anyChanged(guards) {
			t.Errorf("%s of %x: list %d of the answer shares memory with an argument", what, args, i)
		}
		for j, room := range wholeRooms(lists) {
			if j != i && !bytes.Equal(room, rooms[j]) {
				t.Errorf("%s of %x: lists %d and %d of the answer share memory", what, args, i, j)
			}
		}
		spoil(list)
	}
	for _, list := range lists {
		spoil(list)
	}
	if !sameLists(call(guarded), first) {
		t.Errorf("%s of %x: a second call answers something else", what, args)
	}
}

// ofOneList makes of a call something that checkMemory can ask.
func ofOneList(call func(a []byte) []byte) func(args [][]byte) [][]byte {
	return func(args [][]byte) [][]byte { return [][]byte{call(args[0])} }
}

func ofTwoLists(call func(a []byte, b []byte) []byte) func(args [][]byte) [][]byte {
	return func(args [][]byte) [][]byte { return [][]byte{call(args[0], args[1])} }
}
