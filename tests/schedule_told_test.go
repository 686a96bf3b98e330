package tests

import (
	"bytes"
	"crypto/sha256"
	"math/rand"
	"testing"

	"loop.example/g00004/impl"
)

// Chapter 14 done two other ways: by the calls of the chapters below it, and by the library's sums alone.

// scheduleCall is a function of chapter 14. Of takes, each letter is an argument: a secret (s), a psk that may be empty
// (k), or any bytes (a).
type scheduleCall struct {
	name    string
	takes   string
	call    func(args [][]byte) [][]byte
	below   func(args [][]byte) [][]byte
	library func(args [][]byte) [][]byte
}

func scheduleCalls() []scheduleCall {
	return []scheduleCall{
		{"early", "k", ofOneList(impl.EarlySecret), ofOneList(belowEarly), ofOneList(libraryEarly)},
		{"handshake", "ss", ofTwoLists(impl.HandshakeSecret), ofTwoLists(belowHandshake), ofTwoLists(libraryHandshake)},
		{"master", "s", ofOneList(impl.MasterSecret), ofOneList(belowMaster), ofOneList(libraryMaster)},
		{"keys", "s", ofKeys, belowKeys, libraryKeyAndIv},
		{"next", "s", ofOneList(impl.NextSecret), ofOneList(belowNext), ofOneList(libraryNext)},
		{"finished", "ss", ofTwoLists(impl.FinishedMac), ofTwoLists(belowFinished), ofTwoLists(libraryFinished)},
		{"binder", "ka", ofTwoLists(impl.BinderMac), ofTwoLists(belowBinder), ofTwoLists(libraryBinder)},
		{"ticket", "ss", ofTwoLists(impl.TicketSecret), ofTwoLists(belowTicket), ofTwoLists(libraryTicket)},
	}
}

func ofKeys(args [][]byte) [][]byte {
	keys := impl.TrafficKeys(args[0])
	return [][]byte{keys.Key, keys.Iv}
}

func thirtyTwoZeros() []byte {
	return bytes.Repeat([]byte{0}, 32)
}

func orZeros(psk []byte) []byte {
	if len(psk) == 0 {
		return thirtyTwoZeros()
	}
	return psk
}

func belowEarly(psk []byte) []byte {
	return impl.Extract(thirtyTwoZeros(), orZeros(psk))
}

func belowHandshake(early []byte, shared []byte) []byte {
	return impl.Extract(impl.Derive(early, "derived", impl.Hash(nil)), shared)
}

func belowMaster(handshake []byte) []byte {
	return impl.Extract(impl.Derive(handshake, "derived", impl.Hash(nil)), thirtyTwoZeros())
}

func belowKeys(args [][]byte) [][]byte {
	return [][]byte{impl.ExpandLabel(args[0], "key", nil, 32), impl.ExpandLabel(args[0], "iv", nil, 12)}
}

func belowNext(secret []byte) []byte {
	return impl.ExpandLabel(secret, "update", nil, 32)
}

func belowFinished(secret []byte, transcript []byte) []byte {
	return impl.Mac(impl.ExpandLabel(secret, "finished", nil, 32), transcript)
}

// belowBinder goes by the other functions of the chapter.
func belowBinder(psk []byte, head []byte) []byte {
	return impl.FinishedMac(impl.Derive(impl.EarlySecret(psk), "binder", impl.Hash(nil)), impl.Hash(head))
}

func belowTicket(resume []byte, random []byte) []byte {
	return impl.ExpandLabel(resume, "ticket", random, 32)
}

// libraryLabel is one piece of a key by label, as no more than one is asked for in chapter 14.
func libraryLabel(secret []byte, label string, context []byte, n int64) []byte {
	return libraryMac(secret, append(toldInfo(label, context, n), 1))[:n]
}

func libraryOfNothing(secret []byte, label string) []byte {
	nothing := sha256.Sum256(nil)
	return libraryLabel(secret, label, nothing[:], 32)
}

func libraryEarly(psk []byte) []byte {
	return libraryMac(thirtyTwoZeros(), orZeros(psk))
}

func libraryHandshake(early []byte, shared []byte) []byte {
	return libraryMac(libraryOfNothing(early, "derived"), shared)
}

func libraryMaster(handshake []byte) []byte {
	return libraryHandshake(handshake, thirtyTwoZeros())
}

func libraryKeyAndIv(args [][]byte) [][]byte {
	return [][]byte{libraryLabel(args[0], "key", nil, 32), libraryLabel(args[0], "iv", nil, 12)}
}

func libraryNext(secret []byte) []byte {
	return libraryLabel(secret, "update", nil, 32)
}

func libraryFinished(secret []byte, transcript []byte) []byte {
	return libraryMac(libraryLabel(secret, "finished", nil, 32), transcript)
}

func libraryBinder(psk []byte, head []byte) []byte {
	sum := sha256.Sum256(head)
	return libraryFinished(libraryOfNothing(libraryEarly(psk), "binder"), sum[:])
}

func libraryTicket(resume []byte, random []byte) []byte {
	return libraryLabel(resume, "ticket", random, 32)
}

func (c scheduleCall) refuses(args [][]byte) bool {
	for i, kind := range c.takes {
		size := len(args[i])
		if kind == 's' && size != 32 || kind == 'k' && size != 0 && size != 32 {
			return true
		}
	}
	return false
}

// check answers whether the arguments were refused.
func (c scheduleCall) check(t *testing.T, args ...[]byte) bool {
	t.Helper()
	got := c.call(args)
	if c.refuses(args) {
		for _, list := range got {
			checkList(t, c.name+", refused", list, nil, args...)
		}
		return true
	}
	below, library := c.below(args), c.library(args)
	for i, list := range got {
		checkList(t, c.name, list, below[i], args...)
		checkList(t, c.name+", library", list, library[i], args...)
	}
	return false
}

// secretEdges are of 32 bytes, but for the empty list, which is one of a psk.
func secretEdges(r *rand.Rand) [][]byte {
	return [][]byte{thirtyTwoZeros(), full(32), upwards(32), impl.Hash(nil), impl.EarlySecret(nil), powerOf256(31),
		append(make([]byte, 31), 1), append(make([]byte, 31), 128), randomList(r, 32), randomList(r, 32)}
}

// argumentsOf are one list of each that the function takes, of the right length.
func (c scheduleCall) argumentsOf(r *rand.Rand) [][]byte {
	edges := secretEdges(r)
	var args [][]byte
	for _, kind := range c.takes {
		switch {
		case kind == 'a':
			args = append(args, randomList(r, r.Intn(300)))
		case kind == 'k' && r.Intn(4) == 0:
			args = append(args, nil)
		default:
			args = append(args, edges[r.Intn(len(edges))])
		}
	}
	return args
}
