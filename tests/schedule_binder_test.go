package tests

import (
	"bytes"
	"math/rand"
	"slices"
	"testing"

	"loop.example/g00004/impl"
)

// The head of a Hello, and the sum that binds it to a psk.

// helloWithTicket is a random one that has a head.
func helloWithTicket(r *rand.Rand) impl.Message {
	for {
		if m := randomMessage(r, impl.KindHello); len(m.Ticket) > 0 {
			return m
		}
	}
}

func headSizes() []int {
	sizes := []int{1000, 4096, 100000, 1000003}
	for n := range 200 {
		sizes = append(sizes, n)
	}
	return sizes
}

func TestBinderHeads(t *testing.T) {
	r := rand.New(rand.NewSource(276))
	for _, n := range headSizes() {
		head := randomList(r, n)
		for _, psk := range [][]byte{nil, thirtyTwoZeros(), randomList(r, 32)} {
			want := impl.FinishedMac(impl.Derive(impl.EarlySecret(psk), "binder", impl.Hash(nil)), impl.Hash(head))
			if len(want) != 32 {
				t.Fatalf("a sum of %d bytes", len(want))
			}
			checkList(t, "binder", impl.BinderMac(psk, head), want, psk)
			checkList(t, "binder, library", libraryBinder(psk, head), want, psk)
		}
	}
}

// A head has no length of its own: one that is a beginning of another has another sum.
func TestBinderOfEachBeginning(t *testing.T) {
	r := rand.New(rand.NewSource(277))
	psk, head := randomList(r, 32), make([]byte, 150)
	var seen [][]byte
	for n := range head {
		made := impl.BinderMac(psk, head[:n])
		if slices.ContainsFunc(seen, func(one []byte) bool { return bytes.Equal(one, made) }) {
			t.Errorf("the head of %d bytes has the sum of a shorter one", n)
		}
		seen = append(seen, made)
	}
}

func TestHelloHeadOtherBinder(t *testing.T) {
	r := rand.New(rand.NewSource(278))
	for range 200 {
		one := helloWithTicket(r)
		head := impl.HelloHead(one)
		if len(head) == 0 {
			t.Fatalf("no head of %s", messageInShort(one))
		}
		for _, binder := range [][]byte{thirtyTwoZeros(), full(32), withBit(one.Binder, 0), withBit(one.Binder, 255), randomList(r, 32)} {
			other := cloneMessage(one)
			other.Binder = binder
			checkList(t, "head", impl.HelloHead(other), head)
			checkList(t, "head and binder", append(bytes.Clone(head), binder...), impl.EncodeMessage(other))
		}
	}
}

func TestHelloHeadOtherShare(t *testing.T) {
	r := rand.New(rand.NewSource(279))
	one := helloWithTicket(r)
	head := impl.HelloHead(one)
	for bit := range 256 {
		other := cloneMessage(one)
		other.Share = withBit(one.Share, bit)
		changed := impl.HelloHead(other)
		if len(changed) != len(head) || bytes.Equal(changed, head) {
			t.Errorf("bit %d of the share: the head is %x", bit, changed)
		}
		checkList(t, "head and binder", append(bytes.Clone(changed), other.Binder...), impl.EncodeMessage(other))
		if psk := upwards(32); bytes.Equal(impl.BinderMac(psk, changed), impl.BinderMac(psk, head)) {
			t.Errorf("bit %d of the share: one binder fits both", bit)
		}
	}
}

func otherHost(host string) string {
	if host == "other.example" {
		return "another.example"
	}
	return "other.example"
}

// otherHellos differ from a Hello in one field each, the binder left out.
func otherHellos(r *rand.Rand, m impl.Message) []impl.Message {
	var all []impl.Message
	add := func(change func(m *impl.Message)) {
		other := cloneMessage(m)
		change(&other)
		all = append(all, other)
	}
	add(func(m *impl.Message) { m.Version ^= 1 })
	add(func(m *impl.Message) { m.Random = withBit(m.Random, r.Intn(256)) })
	add(func(m *impl.Message) { m.Share = withBit(m.Share, r.Intn(256)) })
	add(func(m *impl.Message) { m.Host = otherHost(m.Host) })
	add(func(m *impl.Message) {
		m.Protocols = append([]string{"one that is not there"}, m.Protocols[:min(2, len(m.Protocols))]...)
	})
	add(func(m *impl.Message) { m.Ticket = withBit(m.Ticket, r.Intn(8*len(m.Ticket))) })
	add(func(m *impl.Message) { m.Age ^= 1 << r.Intn(32) })
	add(func(m *impl.Message) { m.Early ^= 1 })
	return all
}

// A server that got a Hello finds the binder that the client made of it, and of one in which anything else was changed
// another one.
func TestBinderOfHello(t *testing.T) {
	r := rand.New(rand.NewSource(280))
	for range 60 {
		psk, hello := randomList(r, 32), helloWithTicket(r)
		hello.Binder = impl.BinderMac(psk, impl.HelloHead(hello))
		got := impl.DecodeMessage(impl.EncodeMessage(hello), 0)
		if got.Code != 0 {
			t.Fatalf("code %d of %s", got.Code, messageInShort(hello))
		}
		checkList(t, "binder", impl.BinderMac(psk, impl.HelloHead(got.Message)), hello.Binder)
		if bytes.Equal(impl.BinderMac(withBit(psk, r.Intn(256)), impl.HelloHead(hello)), hello.Binder) {
			t.Errorf("another psk fits %s", messageInShort(hello))
		}
		for _, other := range otherHellos(r, hello) {
			head := impl.HelloHead(other)
			if len(head) == 0 || bytes.Equal(head, impl.HelloHead(hello)) {
				t.Errorf("a head of %d bytes of %s", len(head), messageInShort(other))
			}
			if bytes.Equal(impl.BinderMac(psk, head), hello.Binder) {
				t.Errorf("the binder fits %s too", messageInShort(other))
			}
		}
	}
}
