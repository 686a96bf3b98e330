package tests

import (
	"bytes"
	"math/rand"
	"slices"
	"testing"

	"loop.example/g00004/impl"
)

// What chapter 10 says of many items, one behind the other.

// toldItems cuts by toldItemAt, item by item.
func toldItems(b []byte) impl.ItemList {
	list := impl.ItemList{Good: true}
	for at := int64(0); at < int64(len(b)); {
		one := toldItemAt(b, at)
		if !one.Good || len(list.Items) == 1000 {
			return impl.ItemList{}
		}
		list.Items = append(list.Items, impl.Item{Tag: one.Tag, Body: one.Body})
		at = one.Next
	}
	return list
}

func sameItem(a impl.Item, b impl.Item) bool {
	return a.Tag == b.Tag && bytes.Equal(a.Body, b.Body)
}

func encodeAll(items []impl.Item) []byte {
	var whole []byte
	for _, one := range items {
		whole = append(whole, impl.EncodeItem(one.Tag, one.Body)...)
	}
	return whole
}

// checkItems also holds what was decoded, encoded again, to the same bytes. It tells whether there are items.
func checkItems(t *testing.T, b []byte, want impl.ItemList) bool {
	t.Helper()
	got := impl.DecodeItems(b)
	if got.Good != want.Good || !slices.EqualFunc(got.Items, want.Items, sameItem) {
		t.Errorf("%d bytes %x: got %v and %d items, want %v and %d", len(b), beginning(b), got.Good, len(got.Items), want.Good, len(want.Items))
		return false
	}
	if got.Good && !bytes.Equal(encodeAll(got.Items), b) {
		t.Errorf("%d bytes %x: encoded again the items have other bytes", len(b), beginning(b))
	}
	return got.Good
}

func checkNoItems(t *testing.T, b []byte) {
	t.Helper()
	checkItems(t, b, impl.ItemList{})
}

// checkItemsBack also goes from item to item by Next.
func checkItemsBack(t *testing.T, items []impl.Item) {
	t.Helper()
	whole := encodeAll(items)
	checkItems(t, whole, impl.ItemList{Good: true, Items: items})
	at := int64(0)
	for i, one := range items {
		got := impl.DecodeItem(whole, at)
		if !got.Good || !sameItem(impl.Item{Tag: got.Tag, Body: got.Body}, one) {
			t.Errorf("item %d of %d does not come back", i, len(items))
		}
		at = got.Next
	}
	if at != int64(len(whole)) {
		t.Errorf("%d items of %d bytes end at %d", len(items), len(whole), at)
	}
}

func randomItems(r *rand.Rand, count int, mostBytes int) []impl.Item {
	var items []impl.Item
	for range count {
		items = append(items, impl.Item{Tag: 1 + r.Int63n(255), Body: randomList(r, r.Intn(mostBytes+1))})
	}
	return items
}

func TestItemsNone(t *testing.T) {
	for _, b := range [][]byte{nil, {}, upwards(5)[:0]} {
		if got := impl.DecodeItems(b); !got.Good || len(got.Items) != 0 {
			t.Errorf("no bytes: got %v and %d items", got.Good, len(got.Items))
		}
	}
}

func TestPromise15ItemsOfEverySize(t *testing.T) {
	r := rand.New(rand.NewSource(160))
	sizes := []int{0, 1, 127, 128, 255, 256, 65535}
	for _, n := range sizes {
		for _, m := range sizes {
			checkItemsBack(t, []impl.Item{{Tag: 1, Body: randomList(r, n)}, {Tag: 255, Body: randomList(r, m)}})
		}
	}
	var all []impl.Item
	for i, n := range append(sizes, sizes...) {
		all = append(all, impl.Item{Tag: int64(1 + i), Body: randomList(r, n)})
	}
	checkItemsBack(t, all)
	slices.Reverse(all)
	checkItemsBack(t, all)
}

func TestPromise15ManyItems(t *testing.T) {
	r := rand.New(rand.NewSource(161))
	for count := range 60 {
		checkItemsBack(t, randomItems(r, count, 300))
	}
	// Items may stand in items.
	inner := randomItems(r, 20, 30)
	outer := []impl.Item{{Tag: impl.TagList, Body: encodeAll(inner)}, {Tag: impl.TagBytes}, {Tag: impl.TagList, Body: encodeAll(inner)}}
	checkItemsBack(t, outer)
	for _, place := range []int{0, 2} {
		checkItems(t, impl.DecodeItems(encodeAll(outer)).Items[place].Body, impl.ItemList{Good: true, Items: inner})
	}
}

func TestItemsThousand(t *testing.T) {
	r := rand.New(rand.NewSource(162))
	for _, mostBytes := range []int{0, 1, 200, 300} {
		for _, count := range []int{998, 999, 1000} {
			items := randomItems(r, count, mostBytes)
			checkItemsBack(t, items)
			for _, over := range [][]byte{{0}, {4}, {4, 1}, {0, 0}, {4, 128}, {4, 129, 5}} {
				checkNoItems(t, append(encodeAll(items), over...))
			}
		}
		for _, count := range []int{1001, 1002, 1256, 2000, 5000} {
			checkNoItems(t, encodeAll(randomItems(r, count, mostBytes)))
		}
	}
	many := randomItems(r, 1001, 2)
	whole := encodeAll(many)
	last := len(impl.EncodeItem(many[1000].Tag, many[1000].Body))
	checkItems(t, whole[:len(whole)-last], impl.ItemList{Good: true, Items: many[:1000]})
}

// A cut is good just where an item ends.
func TestItemsCutAnywhere(t *testing.T) {
	r := rand.New(rand.NewSource(163))
	for range 6 {
		whole := encodeAll(randomItems(r, 6, 150))
		good := 0
		for cut := range len(whole) + 1 {
			if checkItems(t, whole[:cut], toldItems(whole[:cut])) {
				good++
			}
		}
		if good != 7 {
			t.Errorf("%x: %d of its beginnings are items", whole, good)
		}
	}
}

func TestItemsLeftOver(t *testing.T) {
	r := rand.New(rand.NewSource(164))
	for count := range 10 {
		whole := encodeAll(randomItems(r, count, 200))
		for _, over := range [][]byte{{0}, {1}, {255}, {0, 0}, {4, 1}, {4, 128}, {4, 129}, {4, 130}, {4, 131, 0, 0, 0}, {4, 2, 7}, make([]byte, 30)} {
			checkNoItems(t, slices.Concat(whole, over))
			// Nor is there one ahead of good ones or between them.
			if over[0] == 0 {
				checkNoItems(t, slices.Concat(over, whole))
				checkNoItems(t, slices.Concat(whole, over, whole))
			}
		}
	}
}

func TestItemsEveryShortList(t *testing.T) {
	good := 0
	for n := range 7 {
		for _, b := range allListsOf(n, 0, 1, 2, 127, 128, 129, 130) {
			if checkItems(t, b, toldItems(b)) {
				good++
			}
		}
	}
	if good < 1000 {
		t.Errorf("only %d lists of items", good)
	}
}

// Items with one byte changed: there may be others then, or none.
func TestItemsChanged(t *testing.T) {
	r := rand.New(rand.NewSource(165))
	good := 0
	for range 2000 {
		whole := encodeAll(randomItems(r, 1+r.Intn(5), 140))
		whole[r.Intn(len(whole))] = byte(r.Intn(256))
		if checkItems(t, whole, toldItems(whole)) {
			good++
		}
	}
	if good < 100 || good > 1990 {
		t.Errorf("of 2000 lists %d are items", good)
	}
}

func ofDecodeItems(args [][]byte) [][]byte {
	var bodies [][]byte
	for _, one := range slices.Concat(impl.DecodeItems(args[0]).Items, impl.DecodeItems(args[0]).Items) {
		bodies = append(bodies, one.Body)
	}
	return bodies
}

func TestItemsMemory(t *testing.T) {
	r := rand.New(rand.NewSource(166))
	for count := range 12 {
		whole := encodeAll(randomItems(r, count, 300))
		checkMemory(t, "items", ofDecodeItems, whole)
		checkMemory(t, "items left over", ofDecodeItems, append(bytes.Clone(whole), 4))
	}
	checkMemory(t, "items without bodies", ofDecodeItems, bytes.Repeat([]byte{4, 0}, 30))
	checkMemory(t, "too many items", ofDecodeItems, bytes.Repeat([]byte{4, 0}, 1001))
}

// The list of items is new too, with the room behind it.
func TestItemsAreNew(t *testing.T) {
	r := rand.New(rand.NewSource(167))
	items := randomItems(r, 37, 20)
	whole := encodeAll(items)
	first, second := impl.DecodeItems(whole), impl.DecodeItems(whole)
	room := first.Items[:cap(first.Items)]
	for i := range room {
		room[i] = impl.Item{Tag: -1, Body: upwards(3)}
	}
	for i, one := range second.Items[:cap(second.Items)] {
		if one.Tag == -1 {
			t.Errorf("item %d of one answer stands in another", i)
		}
	}
	checkItems(t, whole, impl.ItemList{Good: true, Items: items})
}
