package tests

import (
	"bytes"
	"crypto/ed25519"
	"encoding/asn1"
	"math/rand"
	"slices"
	"testing"

	"loop.example/g00004/impl"
)

// What chapter 11 says of certificates as bytes and of issuing, and promise 16.

// signedBytes are what the signature of a certificate is made of.
func signedBytes(c impl.Cert) []byte {
	return slices.Concat([]byte{'c', 'e', 'r', 't'}, bodyBytes(toldCertItems(c)))
}

// checkBack also holds a certificate to its told form.
func checkBack(t *testing.T, c impl.Cert) {
	t.Helper()
	form := impl.EncodeCert(c)
	checkList(t, "encoded", form, toldCertForm(c))
	back := impl.DecodeCert(form)
	if !back.Good || !sameCert(back.Cert, c) {
		t.Errorf("%s comes back as %v, %s", certInShort(c), back.Good, certInShort(back.Cert))
	}
}

func TestPromise16Back(t *testing.T) {
	r := rand.New(rand.NewSource(195))
	for _, c := range manyCerts(r, 1500) {
		checkBack(t, c)
	}
}

// Every number of hosts, every path limit, all uses, and times at both ends.
func TestPromise16BackEveryMake(t *testing.T) {
	times := [][2]int64{{0, 0}, {0, impl.MaxTime}, {impl.MaxTime, impl.MaxTime}}
	for _, base := range plainCerts() {
		for _, when := range times {
			for count := range impl.MaxHosts + 1 {
				c := cloneCert(base)
				c.From, c.Until, c.Hosts = when[0], when[1], countedNames(count)
				checkBack(t, c)
			}
		}
	}
	for limit := int64(-1); limit <= impl.MaxPathLimit; limit++ {
		for uses := int64(4); uses <= 7; uses++ {
			for _, permitted := range []int{0, 1, impl.MaxHosts} {
				for _, excluded := range []int{0, 1, impl.MaxHosts} {
					c := plainAuthority()
					c.PathLimit, c.Uses, c.Permitted, c.Excluded = limit, uses, countedNames(permitted), countedNames(excluded)
					checkBack(t, c)
				}
			}
		}
	}
	for uses := int64(1); uses <= 3; uses++ {
		c := plainLeaf()
		c.Uses = uses
		checkBack(t, c)
	}
}

// What changes a certificate within the rules changes its bytes, and comes back.
func TestPromise16BackAfterChanges(t *testing.T) {
	r := rand.New(rand.NewSource(196))
	for _, base := range plainCerts() {
		changes := slices.DeleteFunc(changesOf(base), func(one certChange) bool { return one.rule != 0 })
		for range 1500 {
			c := base
			for range 1 + r.Intn(5) {
				c = changes[r.Intn(len(changes))].of(c)
			}
			checkBack(t, c)
		}
	}
}

// Two certificates have the same bytes only if they are the same.
func TestPromise16OneFormEach(t *testing.T) {
	r := rand.New(rand.NewSource(197))
	for _, base := range plainCerts() {
		for _, one := range changesOf(base) {
			for _, c := range []impl.Cert{base, randomCert(r, base.Authority)} {
				other := one.of(c)
				if impl.CertFault(other) != 0 {
					continue
				}
				if same := bytes.Equal(impl.EncodeCert(c), impl.EncodeCert(other)); same != sameCert(c, other) {
					t.Errorf("%s and %s: the same bytes %v", certInShort(c), certInShort(other), same)
				}
			}
		}
	}
}

func TestCertFormExample(t *testing.T) {
	c := impl.Cert{Serial: []byte{5}, Issuer: "I", Subject: "S", From: 0, Until: 59, Key: make([]byte, 32), Hosts: []string{"h"},
		Authority: true, PathLimit: -1, Uses: 7, Permitted: []string{"p"}, Excluded: []string{"e", "f"}, Signature: full(64)}
	inside := slices.Concat([]byte{2, 1, 1, 4, 1, 5, 12, 1, 'I', 12, 1, 'S'}, []byte{24, 15}, []byte("19700101000000Z"), []byte{24, 15},
		[]byte("19700101000059Z"), []byte{4, 32}, make([]byte, 32), []byte{48, 3, 12, 1, 'h', 1, 1, 255, 2, 1, 255, 2, 1, 7, 48, 3, 12, 1, 'p',
			48, 6, 12, 1, 'e', 12, 1, 'f'})
	body := slices.Concat([]byte{48, byte(len(inside))}, inside)
	whole := slices.Concat(body, []byte{4, 64}, full(64))
	checkList(t, "body", impl.CertBody(c), body)
	checkList(t, "certificate", impl.EncodeCert(c), slices.Concat([]byte{48, 129, byte(len(whole))}, whole))
	checkBack(t, c)
}

// The signature plays no part in the body, whatever its length.
func TestCertBodyWithoutSignature(t *testing.T) {
	r := rand.New(rand.NewSource(198))
	for _, c := range manyCerts(r, 20) {
		want := bodyBytes(toldCertItems(c))
		for _, n := range []int{0, 1, 63, 64, 65, 200} {
			c.Signature = randomList(r, n)
			checkList(t, "body", impl.CertBody(c), want)
		}
	}
}

// libraryCert is the form of a certificate as the library's items have it.
type libraryCert struct {
	Body struct {
		Version   int
		Serial    []byte
		Issuer    string
		Subject   string
		From      asn1.RawValue
		Until     asn1.RawValue
		Key       []byte
		Hosts     []asn1.RawValue
		Authority bool
		PathLimit int
		Uses      int
		Permitted []asn1.RawValue
		Excluded  []asn1.RawValue
	}
	Signature []byte
}

func rawTexts(items []asn1.RawValue) []string {
	var texts []string
	for _, item := range items {
		texts = append(texts, string(item.Bytes))
	}
	return texts
}

// The library would read texts with other tags too, so that it shows what is read, not what is refused.
func TestCertLibrary(t *testing.T) {
	r := rand.New(rand.NewSource(199))
	for _, c := range manyCerts(r, 200) {
		var told libraryCert
		rest, err := asn1.Unmarshal(impl.EncodeCert(c), &told)
		if err != nil || len(rest) != 0 {
			t.Fatalf("%s: %v, %d bytes left over", certInShort(c), err, len(rest))
		}
		read := impl.Cert{Serial: told.Body.Serial, Issuer: told.Body.Issuer, Subject: told.Body.Subject, From: toldTime(told.Body.From.Bytes).Value,
			Until: toldTime(told.Body.Until.Bytes).Value, Key: told.Body.Key, Hosts: rawTexts(told.Body.Hosts), Authority: told.Body.Authority,
			PathLimit: int64(told.Body.PathLimit), Uses: int64(told.Body.Uses), Permitted: rawTexts(told.Body.Permitted),
			Excluded: rawTexts(told.Body.Excluded), Signature: told.Signature}
		if told.Body.Version != 1 || !sameCert(read, c) {
			t.Errorf("%s: the library reads %s", certInShort(c), certInShort(read))
		}
	}
}

// checkIssued holds what was issued to all that promise 16 says of it, and to the library's signature.
func checkIssued(t *testing.T, c impl.Cert, seed []byte) impl.Cert {
	t.Helper()
	issued := impl.IssueCert(c, seed)
	unsigned := issued
	unsigned.Signature = c.Signature
	if !sameCert(unsigned, c) {
		t.Errorf("%s was issued as %s", certInShort(c), certInShort(issued))
	}
	if fault := impl.CertFault(issued); fault != 0 {
		t.Errorf("%s was issued with the fault %d", certInShort(c), fault)
	}
	checkVerify(t, "issued", impl.SignPublic(seed), signedBytes(c), issued.Signature, 0)
	checkVerify(t, "issued", impl.SignPublic(seed), slices.Concat([]byte("cert"), impl.CertBody(issued)), issued.Signature, 0)
	checkList(t, "signature", issued.Signature, ed25519.Sign(ed25519.NewKeyFromSeed(seed), signedBytes(c)), seed)
	checkBack(t, issued)
	return issued
}

func TestPromise16Issued(t *testing.T) {
	r := rand.New(rand.NewSource(200))
	for _, c := range manyCerts(r, 150) {
		checkIssued(t, c, randomList(r, 32))
	}
	for _, seed := range signSeeds(r) {
		for _, c := range plainCerts() {
			checkIssued(t, withoutSignature(c), seed)
		}
	}
}

// A certificate may have any signature, or none, before it is issued.
func TestPromise16IssuedAgain(t *testing.T) {
	r := rand.New(rand.NewSource(201))
	for _, c := range manyCerts(r, 6) {
		seed := randomList(r, 32)
		want := checkIssued(t, withoutSignature(c), seed)
		for _, n := range []int{0, 1, 63, 64, 65, 1000} {
			c.Signature = randomList(r, n)
			if got := impl.IssueCert(c, seed); !sameCert(got, want) {
				t.Errorf("%s with a signature of %d bytes is issued otherwise", certInShort(c), n)
			}
		}
		if again := impl.IssueCert(want, seed); !sameCert(again, want) {
			t.Errorf("%s issued again is another", certInShort(want))
		}
	}
}

// The signature is of these four bytes and this body, by this seed, and of nothing else.
func TestIssuedSignatureIsOfThis(t *testing.T) {
	r := rand.New(rand.NewSource(202))
	for _, c := range plainCerts() {
		seed := randomList(r, 32)
		issued := impl.IssueCert(c, seed)
		public := impl.SignPublic(seed)
		checkNotVerified(t, "another seed", impl.SignPublic(randomList(r, 32)), signedBytes(c), issued.Signature)
		checkNotVerified(t, "no mark", public, impl.CertBody(c), issued.Signature)
		checkNotVerified(t, "another mark", public, slices.Concat([]byte("Cert"), impl.CertBody(c)), issued.Signature)
		checkNotVerified(t, "the whole", public, slices.Concat([]byte("cert"), impl.EncodeCert(issued)), issued.Signature)
		for _, one := range changesOf(c) {
			other := one.of(c)
			if one.rule == 0 && !bytes.Equal(impl.CertBody(other), impl.CertBody(c)) && r.Intn(4) == 0 {
				checkNotVerified(t, "another certificate", public, signedBytes(other), issued.Signature)
			}
		}
	}
}

func TestIssueCertWrongSeeds(t *testing.T) {
	r := rand.New(rand.NewSource(203))
	for _, c := range append(plainCerts(), impl.Cert{}) {
		for _, seed := range notOfSize(r, 32) {
			if got := impl.IssueCert(c, seed); !sameCert(got, impl.Cert{}) {
				t.Errorf("with a seed of %d bytes %s was issued", len(seed), certInShort(got))
			}
		}
	}
	if got := impl.IssueCert(impl.Cert{}, upwards(32)); !sameCert(got, impl.Cert{}) {
		t.Errorf("of nothing %s was issued", certInShort(got))
	}
}
