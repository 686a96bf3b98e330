package tests

import (
	"bytes"
	"math/rand"
	"slices"
	"testing"

	"loop.example/g00004/impl"
)

// The general rules 2 to 4 of what takes or answers certificates: their texts stand in lists too.

// guardedTexts is a list with known texts ahead of it and in the room behind it.
type guardedTexts struct {
	list   []string
	whole  []string
	before []string
}

func guardTexts(texts []string) guardedTexts {
	whole := slices.Repeat([]string{"guard"}, 2+len(texts)+2)
	copy(whole[2:], texts)
	return guardedTexts{list: whole[2 : 2+len(texts)], whole: whole, before: slices.Clone(whole)}
}

func (g guardedTexts) changed() bool {
	return !slices.Equal(g.whole, g.before)
}

type guardedCert struct {
	cert  impl.Cert
	lists []guardedList
	texts []guardedTexts
}

func guardCert(c impl.Cert) guardedCert {
	g := guardedCert{cert: c}
	for _, list := range []*[]byte{&g.cert.Serial, &g.cert.Key, &g.cert.Signature} {
		guarded := guard(*list)
		*list = guarded.list
		g.lists = append(g.lists, guarded)
	}
	for _, texts := range []*[]string{&g.cert.Hosts, &g.cert.Permitted, &g.cert.Excluded} {
		guarded := guardTexts(*texts)
		*texts = guarded.list
		g.texts = append(g.texts, guarded)
	}
	return g
}

func (g guardedCert) changed() bool {
	return anyChanged(g.lists) || slices.ContainsFunc(g.texts, guardedTexts.changed)
}

// certRoom is a copy of all that an answer holds, with the room behind it.
type certRoom struct {
	lists [][]byte
	texts [][]string
}

func listsOfCert(c impl.Cert) [][]byte {
	return [][]byte{c.Serial, c.Key, c.Signature}
}

func textsOfCert(c impl.Cert) [][]string {
	return [][]string{c.Hosts, c.Permitted, c.Excluded}
}

func roomOf(c impl.Cert) certRoom {
	room := certRoom{lists: wholeRooms(listsOfCert(c))}
	for _, texts := range textsOfCert(c) {
		room.texts = append(room.texts, slices.Clone(texts[:cap(texts)]))
	}
	return room
}

func sameTexts(a []string, b []string) bool {
	return slices.Equal(a, b)
}

func (room certRoom) same(other certRoom) bool {
	return sameLists(room.lists, other.lists) && slices.EqualFunc(room.texts, other.texts, sameTexts)
}

// checkSpoilt spoils each list of an answer alone: nothing else of the answer changes, and unchanged goes on holding.
func checkSpoilt(t *testing.T, what string, c impl.Cert, unchanged func() bool) {
	t.Helper()
	want := roomOf(c)
	for i, list := range listsOfCert(c) {
		spoil(list)
		got := roomOf(c)
		got.lists[i] = want.lists[i]
		if !got.same(want) || !unchanged() {
			t.Errorf("%s: list %d of %s shares memory", what, i, certInShort(c))
		}
		spoil(list)
	}
	for i, texts := range textsOfCert(c) {
		room := texts[:cap(texts)]
		for j := range room {
			room[j] = "spoilt"
		}
		got := roomOf(c)
		got.texts[i] = want.texts[i]
		if !got.same(want) || !unchanged() {
			t.Errorf("%s: texts %d of %s share memory", what, i, certInShort(c))
		}
		copy(room, want.texts[i])
	}
}

// spoilCert leaves nothing of a certificate as it was.
func spoilCert(c impl.Cert) {
	for _, list := range listsOfCert(c) {
		spoil(list)
	}
	for _, texts := range textsOfCert(c) {
		room := texts[:cap(texts)]
		for i := range room {
			room[i] = "spoilt"
		}
	}
}

func checkIssueMemory(t *testing.T, c impl.Cert, seed []byte) {
	t.Helper()
	g, guardedSeed := guardCert(c), guard(seed)
	unchanged := func() bool { return !g.changed() && !guardedSeed.changed() }
	issued := impl.IssueCert(g.cert, guardedSeed.list)
	if !unchanged() {
		t.Errorf("%s: issuing changes an argument or the room behind it", certInShort(c))
	}
	first := cloneCert(issued)
	checkSpoilt(t, "issuing", issued, unchanged)
	spoilCert(issued)
	if again := impl.IssueCert(g.cert, guardedSeed.list); !sameCert(again, first) {
		t.Errorf("%s: issued a second time it is another", certInShort(c))
	}
}

// certParts are well-formed or not: an argument stays as it is either way.
func certParts(r *rand.Rand) []impl.Cert {
	certs := append(manyCerts(r, 10), impl.Cert{})
	for _, c := range plainCerts() {
		few := fewOfEach(r, changesOf(c))
		for _, one := range few[:min(30, len(few))] {
			certs = append(certs, one.of(c))
		}
	}
	return certs
}

func TestIssueCertMemory(t *testing.T) {
	r := rand.New(rand.NewSource(212))
	for _, c := range certParts(r) {
		checkIssueMemory(t, c, randomList(r, 32))
		checkIssueMemory(t, c, randomList(r, 31))
	}
}

// Lists that share their memory as arguments do not as an answer.
func TestIssueCertFromOneList(t *testing.T) {
	whole := full(96)
	names := countedNames(16)
	c := plainAuthority()
	c.Serial, c.Key, c.Signature = whole[:20], whole[:32], whole[32:96]
	c.Hosts, c.Permitted, c.Excluded = names[:5], names, names[:16:16]
	unchanged := func() bool { return slices.Equal(names, countedNames(16)) && bytes.Equal(whole, full(96)) }
	issued := checkIssued(t, c, whole[8:40])
	if !unchanged() {
		t.Errorf("issuing from one list changes it")
	}
	checkSpoilt(t, "issuing from one list", issued, unchanged)
}

func TestDecodeCertMemory(t *testing.T) {
	r := rand.New(rand.NewSource(213))
	for _, c := range manyCerts(r, 12) {
		form := toldCertForm(c)
		for _, b := range [][]byte{form, form[:len(form)-1], append(bytes.Clone(form), 0), withBit(form, 3), withBit(form, 8*len(form)-1)} {
			g := guard(b)
			first := impl.DecodeCert(g.list)
			if g.changed() {
				t.Errorf("%s: decoding changes its bytes", certInShort(c))
			}
			want := impl.CertResult{Good: first.Good, Cert: cloneCert(first.Cert)}
			checkSpoilt(t, "decoding", first.Cert, func() bool { return !g.changed() })
			spoilCert(first.Cert)
			if again := impl.DecodeCert(g.list); again.Good != want.Good || !sameCert(again.Cert, want.Cert) {
				t.Errorf("%s: decoded a second time it is another", certInShort(c))
			}
		}
	}
}

// checkCertBytes asks a call with the guarded lists of a certificate for bytes that are new memory.
func checkCertBytes(t *testing.T, what string, c impl.Cert, call func(c impl.Cert) []byte) {
	t.Helper()
	g := guardCert(c)
	first := call(g.cert)
	want := bytes.Clone(first)
	if g.changed() {
		t.Errorf("%s of %s changes an argument or the room behind it", what, certInShort(c))
	}
	spoil(first)
	if g.changed() {
		t.Errorf("%s of %s shares memory with an argument", what, certInShort(c))
	}
	if !bytes.Equal(call(g.cert), want) {
		t.Errorf("%s of %s, asked a second time, is another", what, certInShort(c))
	}
}

func TestCertMemory(t *testing.T) {
	r := rand.New(rand.NewSource(214))
	for _, c := range certParts(r) {
		checkCertBytes(t, "body", c, impl.CertBody)
		checkCertBytes(t, "encoded", c, impl.EncodeCert)
		checkCertBytes(t, "fault", c, func(c impl.Cert) []byte { return bigEndian(impl.CertFault(c)) })
	}
}
