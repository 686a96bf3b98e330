package tests

import (
	"bytes"
	"math/rand"
	"slices"
	"testing"

	"loop.example/g00004/impl"
)

// What chapter 11 says of bytes that are a certificate, and of those that are none.

// checkDecode holds bytes to what they are told as; what is decoded, encoded again, is the very bytes. It tells whether
// they are a certificate.
func checkDecode(t *testing.T, b []byte, want impl.CertResult) bool {
	t.Helper()
	got := impl.DecodeCert(b)
	if got.Good != want.Good || !sameCert(got.Cert, want.Cert) {
		t.Errorf("%d bytes %x: got %v, %s, want %v, %s", len(b), beginning(b), got.Good, certInShort(got.Cert), want.Good, certInShort(want.Cert))
		return false
	}
	if got.Good {
		checkList(t, "encoded again", impl.EncodeCert(got.Cert), b)
	}
	return got.Good
}

func checkNoCert(t *testing.T, what string, b []byte) {
	t.Helper()
	if got := impl.DecodeCert(b); got.Good || !sameCert(got.Cert, impl.Cert{}) {
		t.Errorf("%s: %d bytes %x: got %v, %s", what, len(b), beginning(b), got.Good, certInShort(got.Cert))
	}
}

func checkTold(t *testing.T, b []byte) bool {
	t.Helper()
	return checkDecode(t, b, toldDecode(b))
}

// decodedCerts are of both kinds, small and great, with short and long lengths of their lists.
func decodedCerts(r *rand.Rand) []impl.Cert {
	small := plainLeaf()
	small.Serial, small.Issuer, small.Subject, small.Hosts = []byte{1}, "I", "S", nil
	return append(manyCerts(r, 4), small)
}

// putItem has another item at a place.
func putItem(c impl.Cert, place int, item impl.Item) []byte {
	items := toldCertItems(c)
	items[place] = item
	return certBytes(items, c.Signature)
}

func putBody(c impl.Cert, place int, body []byte) []byte {
	return putItem(c, place, impl.Item{Tag: toldCertItems(c)[place].Tag, Body: body})
}

func TestDecodeCertNothing(t *testing.T) {
	for _, b := range [][]byte{nil, {}, {0}, {48}, {48, 0}, {48, 2, 48, 0}, {48, 4, 48, 0, 4, 0}, make([]byte, 300), full(300), upwards(256)} {
		checkNoCert(t, "nothing", b)
	}
}

func TestDecodeCertCutShort(t *testing.T) {
	r := rand.New(rand.NewSource(204))
	for _, c := range decodedCerts(r) {
		form := toldCertForm(c)
		for cut := range form {
			checkNoCert(t, "cut short", form[:cut])
			checkNoCert(t, "cut ahead", form[cut+1:])
		}
		checkDecode(t, form, impl.CertResult{Good: true, Cert: c})
	}
}

// A byte more or less at any place.
func TestPromise16ByteMoreOrLess(t *testing.T) {
	r := rand.New(rand.NewSource(205))
	for _, c := range decodedCerts(r) {
		form := toldCertForm(c)
		for at := range len(form) + 1 {
			for _, b := range []byte{0, 1, 255, byte(r.Intn(256))} {
				checkNoCert(t, "a byte more", slices.Insert(bytes.Clone(form), at, b))
			}
			if at < len(form) {
				checkNoCert(t, "a byte less", slices.Delete(bytes.Clone(form), at, at+1))
			}
		}
		for _, rest := range [][]byte{{0}, {48, 0}, form} {
			checkNoCert(t, "more behind it", slices.Concat(form, rest))
			checkNoCert(t, "more ahead of it", slices.Concat(rest, form))
		}
	}
}

// Spoilt bytes may be another certificate, if just what may be anything was changed.
func TestPromise16EveryByteSpoilt(t *testing.T) {
	r := rand.New(rand.NewSource(206))
	good, all := 0, 0
	for _, c := range decodedCerts(r) {
		form := toldCertForm(c)
		// Telling a great one takes long, so places are left out there.
		for at := 0; at < len(form); at += 1 + len(form)/500 {
			for bit := range 8 {
				spoilt := bytes.Clone(form)
				spoilt[at] ^= 1 << bit
				if checkTold(t, spoilt) {
					good++
				}
				all++
			}
		}
	}
	if good < 2000 || all-good < 2000 {
		t.Errorf("of %d lists %d are certificates", all, good)
	}
}

func TestPromise16EveryValueOfEveryByte(t *testing.T) {
	for _, c := range plainCerts() {
		form := toldCertForm(c)
		// The key and the signature may be anything, and are changed elsewhere.
		for at := range len(form) - 64 {
			for value := range 256 {
				spoilt := bytes.Clone(form)
				spoilt[at] = byte(value)
				checkTold(t, spoilt)
			}
		}
	}
}

func TestPromise16SpoiltInManyPlaces(t *testing.T) {
	r := rand.New(rand.NewSource(207))
	good := 0
	for range 4000 {
		spoilt := toldCertForm(randomCert(r, r.Intn(2) == 0))
		for range 1 + r.Intn(3) {
			spoilt[r.Intn(len(spoilt))] = byte(r.Intn(256))
		}
		if checkTold(t, spoilt) {
			good++
		}
	}
	if good < 200 || good > 3800 {
		t.Errorf("of 4000 lists %d are certificates", good)
	}
}

func TestDecodeCertVersions(t *testing.T) {
	for _, c := range plainCerts() {
		for value := range 256 {
			if value != 1 {
				checkNoCert(t, "another version", putBody(c, 0, []byte{byte(value)}))
			}
		}
		for _, body := range [][]byte{nil, {0, 1}, {1, 0}, {1, 1}, {0, 0, 0, 0, 0, 0, 0, 1}, {0, 0, 0, 0, 0, 0, 0, 0, 1}} {
			checkNoCert(t, "another version", putBody(c, 0, body))
		}
	}
}

// Every tag there is, changed into every other.
func TestDecodeCertTags(t *testing.T) {
	for _, c := range plainCerts() {
		form, items := toldCertForm(c), toldCertItems(c)
		inner := bodyBytes(items)
		for value := range 256 {
			tag := byte(value)
			for place, item := range items {
				if int64(tag) != item.Tag {
					checkNoCert(t, "another tag", putItem(c, place, impl.Item{Tag: int64(tag), Body: item.Body}))
				}
			}
			if tag != impl.TagList {
				checkNoCert(t, "another outer tag", slices.Concat([]byte{tag}, form[1:]))
				checkNoCert(t, "another inner tag", toldItem(impl.TagList, slices.Concat([]byte{tag}, inner[1:], toldItem(impl.TagBytes, c.Signature))))
			}
			if tag != impl.TagBytes {
				checkNoCert(t, "another tag of the signature", toldItem(impl.TagList, slices.Concat(inner, toldItem(int64(tag), c.Signature))))
			}
			for _, place := range []int{7, 11, 12} {
				for i := range toldItems(items[place].Body).Items {
					list := toldItems(items[place].Body).Items
					if tag != impl.TagText && tag != 0 {
						list[i].Tag = int64(tag)
						checkNoCert(t, "another tag in a list", putBody(c, place, encodeAll(list)))
					}
				}
			}
		}
	}
}

func TestDecodeCertBool(t *testing.T) {
	for _, c := range plainCerts() {
		for value := range 256 {
			form := putBody(c, 8, []byte{byte(value)})
			if bytes.Equal(boolBody(c.Authority), []byte{byte(value)}) {
				checkDecode(t, form, impl.CertResult{Good: true, Cert: c})
			} else {
				checkNoCert(t, "another bool", form)
			}
		}
		for _, body := range [][]byte{nil, {0, 0}, {255, 255}, {0, 255}, {255, 0}, {1}} {
			checkNoCert(t, "a bool of another length", putBody(c, 8, body))
		}
		// Areas and the path limit of an authority do not stand in the bytes of another.
		c.Permitted, c.Excluded, c.PathLimit, c.Uses, c.Authority = nil, nil, -1, 3, false
		checkTold(t, toldCertForm(c))
		for _, limit := range []int64{-2, 0, 1, 16} {
			checkNoCert(t, "a path limit", putBody(c, 9, toldIntegerBody(limit)))
		}
		for _, place := range []int{11, 12} {
			checkNoCert(t, "areas", putBody(c, place, textsBody([]string{"a"})))
		}
	}
}

func TestDecodeCertNumbers(t *testing.T) {
	for _, c := range append(plainCerts(), greatestCert()) {
		for _, place := range []int{9, 10} {
			for _, v := range append(strangeNumbers(), -3, -2, -1, 0, 1, 2, 3, 4, 5, 6, 7, 8, 15, 16, 17) {
				checkTold(t, putBody(c, place, toldIntegerBody(v)))
				checkNoCert(t, "a longer number", putBody(c, place, append([]byte{byte(v >> 63)}, bigEndian(v)...)))
			}
			for _, body := range [][]byte{nil, {0, 4}, {0, 0}, {255, 255}, {0, 255}, {0, 1}, {0, 7}, {0, 16}, {0, 0, 4}} {
				checkNoCert(t, "another number", putBody(c, place, body))
			}
		}
	}
}

func TestDecodeCertTimes(t *testing.T) {
	for _, c := range plainCerts() {
		for _, place := range []int{4, 5} {
			for _, text := range []string{"19700101000000Z", "19700101000001Z", "99991231235959Z", "20000229000000Z"} {
				checkTold(t, putBody(c, place, []byte(text)))
			}
			for _, text := range []string{"", "Z", "19691231235959Z", "100000101000000Z", "20010229000000Z", "20000230000000Z", "20001301000000Z", "20000001000000Z",
				"20000100000000Z", "20000101240000Z", "20000101006000Z", "20000101000060Z", "20000101000000z", "20000101000000", "20000101000000ZZ",
				"2000010100000 Z", "000101000000Z", "20000101000000+"} {
				checkNoCert(t, "no time", putBody(c, place, []byte(text)))
			}
		}
		// Until lies ahead of From.
		c.From, c.Until = 1001, 1000
		checkNoCert(t, "times exchanged", toldCertForm(c))
	}
}

// What breaks a rule is no certificate, even where its bytes could be told.
func TestDecodeCertRulesBroken(t *testing.T) {
	for _, c := range plainCerts() {
		for _, one := range changesOf(c) {
			changed := one.of(c)
			if one.rule == 0 {
				checkDecode(t, toldCertForm(changed), impl.CertResult{Good: true, Cert: changed})
			} else {
				checkNoCert(t, "a rule is broken", toldCertForm(changed))
			}
		}
	}
}

func TestDecodeCertListsOutOfOrder(t *testing.T) {
	c := plainAuthority()
	for _, place := range []int{7, 11, 12} {
		for _, names := range wrongOrders() {
			checkNoCert(t, "out of order", putBody(c, place, textsBody(names)))
		}
		for count := range 40 {
			checkTold(t, putBody(c, place, textsBody(countedNames(count))))
		}
		checkNoCert(t, "very many", putBody(c, place, textsBody(countedNames(1000))))
		checkNoCert(t, "more than items may be", putBody(c, place, textsBody(countedNames(1001))))
		checkNoCert(t, "no items", putBody(c, place, []byte{12}))
	}
}

// An item more, less or exchanged in each list.
func TestDecodeCertItemMoreOrLess(t *testing.T) {
	r := rand.New(rand.NewSource(208))
	for _, c := range decodedCerts(r) {
		items := toldCertItems(c)
		more := append(slices.Clone(items), impl.Item{Tag: impl.TagList}, impl.Item{Tag: impl.TagBytes}, impl.Item{Tag: 5, Body: []byte{0}})
		for place := range len(items) + 1 {
			for _, item := range more {
				checkNoCert(t, "an item more", certBytes(slices.Insert(slices.Clone(items), place, item), c.Signature))
			}
			if place < len(items) {
				checkNoCert(t, "an item less", certBytes(slices.Delete(slices.Clone(items), place, place+1), c.Signature))
				checkNoCert(t, "items cut off", certBytes(items[:place], c.Signature))
			}
			for other := range place {
				exchanged := slices.Clone(items)
				if place < len(items) {
					exchanged[other], exchanged[place] = exchanged[place], exchanged[other]
					checkTold(t, certBytes(exchanged, c.Signature))
				}
			}
		}
		body, signature := bodyBytes(items), toldItem(impl.TagBytes, c.Signature)
		for _, inside := range [][]byte{nil, body, signature, slices.Concat(signature, body), slices.Concat(body, body), slices.Concat(body, signature, signature),
			slices.Concat(body, body, signature), slices.Concat(body, signature, []byte{4, 0}), slices.Concat(body, signature, []byte{0})} {
			checkNoCert(t, "another outer list", toldItem(impl.TagList, inside))
		}
		checkNoCert(t, "the body alone", body)
		checkNoCert(t, "without an outer list", slices.Concat(body, signature))
		checkNoCert(t, "with a list around it", toldItem(impl.TagList, toldCertForm(c)))
		for _, place := range []int{7, 11, 12} {
			for _, extra := range [][]byte{{12, 0}, {12, 1, 'A'}, {4, 1, 'a'}, {0}, {12}, {48, 0}} {
				checkNoCert(t, "more in a list", putBody(c, place, slices.Concat(items[place].Body, extra)))
				checkNoCert(t, "more in a list", putBody(c, place, slices.Concat(extra, items[place].Body)))
			}
		}
	}
}

// longerForms have the length of an item in every form but its own.
func longerForms(tag byte, body []byte) [][]byte {
	n := len(body)
	forms := [][]byte{{tag, byte(n)}, {tag, 129, byte(n)}, {tag, 130, byte(n >> 8), byte(n)}, {tag, 131, 0, byte(n >> 8), byte(n)},
		{tag, 132, 0, 0, byte(n >> 8), byte(n)}, {tag, 128}}
	var all [][]byte
	for _, form := range forms {
		if whole := slices.Concat(form, body); !bytes.Equal(whole, toldItem(int64(tag), body)) {
			all = append(all, whole, slices.Concat(whole, []byte{0, 0}))
		}
	}
	return all
}

func TestDecodeCertLongerForms(t *testing.T) {
	r := rand.New(rand.NewSource(209))
	for _, c := range decodedCerts(r) {
		items := toldCertItems(c)
		signature := toldItem(impl.TagBytes, c.Signature)
		inner, outer := bodyBytes(items), toldCertForm(c)
		for _, whole := range longerForms(impl.TagList, toldItemAt(outer, 0).Body) {
			checkNoCert(t, "a longer outer list", whole)
		}
		for _, body := range longerForms(impl.TagList, toldItemAt(inner, 0).Body) {
			checkNoCert(t, "a longer inner list", toldItem(impl.TagList, slices.Concat(body, signature)))
		}
		for _, form := range longerForms(impl.TagBytes, c.Signature) {
			checkNoCert(t, "a longer signature", toldItem(impl.TagList, slices.Concat(inner, form)))
		}
		for place, item := range items {
			for _, form := range longerForms(byte(item.Tag), item.Body) {
				inside := slices.Concat(encodeAll(items[:place]), form, encodeAll(items[place+1:]))
				checkNoCert(t, "a longer item", toldItem(impl.TagList, slices.Concat(toldItem(impl.TagList, inside), signature)))
			}
		}
		for _, place := range []int{7, 11, 12} {
			list := toldItems(items[place].Body).Items
			for i, item := range list {
				for _, form := range longerForms(impl.TagText, item.Body) {
					checkNoCert(t, "a longer text", putBody(c, place, slices.Concat(encodeAll(list[:i]), form, encodeAll(list[i+1:]))))
				}
			}
		}
	}
}

// Bytes that are no item, or an item of anything, at each place of a certificate.
func TestDecodeCertAnyBodies(t *testing.T) {
	r := rand.New(rand.NewSource(210))
	for _, c := range plainCerts() {
		for place := range toldCertItems(c) {
			for _, n := range []int{0, 1, 2, 15, 16, 20, 21, 32, 33, 64, 65, 128, 300} {
				for _, body := range [][]byte{make([]byte, n), full(n), upwards(n), randomList(r, n), []byte(randomTitle(r, n))} {
					checkTold(t, putBody(c, place, body))
				}
			}
		}
	}
}

func TestDecodeCertAnyBytes(t *testing.T) {
	r := rand.New(rand.NewSource(211))
	for range 20000 {
		checkTold(t, randomList(r, r.Intn(60)))
	}
	for n := range 6 {
		for _, b := range allListsOf(n, 0, 1, 4, 48, 129, 130) {
			checkNoCert(t, "a few bytes", b)
		}
	}
	for _, n := range []int{65535, 65536, 65539, 65540, 1 << 20} {
		checkNoCert(t, "many bytes", append([]byte{48, 130, 255, 255}, make([]byte, n)...))
		checkNoCert(t, "many lists", bytes.Repeat([]byte{48, 0}, n/2))
	}
}
