package tests

import (
	"bytes"
	"fmt"
	"math/rand"
	"slices"
	"strings"
	"testing"

	"loop.example/g00004/impl"
)

// Chapter 11 done another way, out of the told items, integers and times of chapter 10, and the certificates that its
// tests ask for.

// toldTitle: 1 to 64 bytes, all in 32..126.
func toldTitle(text string) bool {
	for _, b := range []byte(text) {
		if b >= 127 || b <= 31 {
			return false
		}
	}
	return len(text) > 0 && len(text) < 65
}

func toldNames(names []string, fault func(name string) int64) bool {
	for _, name := range names {
		if fault(name) != 0 {
			return false
		}
	}
	sorted := slices.Clone(names)
	slices.Sort(sorted)
	return len(names) < 17 && slices.Equal(slices.Compact(sorted), names)
}

// toldRules tells of each rule whether it holds; the first one stands at place 0.
func toldRules(c impl.Cert) []bool {
	bare := c.PathLimit == -1 && len(c.Permitted) == 0 && len(c.Excluded) == 0
	forIssuing := c.Uses == 4 || c.Uses == 5 || c.Uses == 6 || c.Uses == 7
	forEnds := c.Uses == 1 || c.Uses == 2 || c.Uses == 3
	return []bool{
		len(c.Serial) > 0 && len(c.Serial) < 21 && c.Serial[0] > 0,
		toldTitle(c.Issuer),
		toldTitle(c.Subject),
		c.From >= 0 && c.Until >= c.From && c.Until < 253402300800,
		len(c.Key) == 32,
		toldNames(c.Hosts, toldPatternFault),
		c.PathLimit > -2 && c.PathLimit < 17 && (c.Authority || bare),
		c.Authority && forIssuing || !c.Authority && forEnds,
		toldNames(c.Permitted, toldNameFault) && toldNames(c.Excluded, toldNameFault),
		len(c.Signature) == 64,
	}
}

func toldCertFault(c impl.Cert) int64 {
	return int64(slices.Index(toldRules(c), false) + 1)
}

// toldIntegerBody cuts bytes off eight of them, as long as the number stays.
func toldIntegerBody(v int64) []byte {
	body := bigEndian(v)
	for !isShortest(body) {
		body = body[1:]
	}
	return body
}

func bigEndian(v int64) []byte {
	body := make([]byte, 8)
	for i := range body {
		body[7-i] = byte(v)
		v >>= 8
	}
	return body
}

func textsBody(texts []string) []byte {
	var body []byte
	for _, text := range texts {
		body = append(body, toldItem(impl.TagText, []byte(text))...)
	}
	return body
}

func boolBody(yes bool) []byte {
	if yes {
		return []byte{255}
	}
	return []byte{0}
}

// toldCertItems are those inside the body; they are told of certificates too that break rules.
func toldCertItems(c impl.Cert) []impl.Item {
	return []impl.Item{
		{Tag: impl.TagInt, Body: []byte{1}},
		{Tag: impl.TagBytes, Body: c.Serial},
		{Tag: impl.TagText, Body: []byte(c.Issuer)},
		{Tag: impl.TagText, Body: []byte(c.Subject)},
		{Tag: impl.TagTime, Body: []byte(libraryTime(c.From))},
		{Tag: impl.TagTime, Body: []byte(libraryTime(c.Until))},
		{Tag: impl.TagBytes, Body: c.Key},
		{Tag: impl.TagList, Body: textsBody(c.Hosts)},
		{Tag: impl.TagBool, Body: boolBody(c.Authority)},
		{Tag: impl.TagInt, Body: toldIntegerBody(c.PathLimit)},
		{Tag: impl.TagInt, Body: toldIntegerBody(c.Uses)},
		{Tag: impl.TagList, Body: textsBody(c.Permitted)},
		{Tag: impl.TagList, Body: textsBody(c.Excluded)},
	}
}

// certBytes are the items, as they are told, in the two lists around them.
func certBytes(items []impl.Item, signature []byte) []byte {
	return toldItem(impl.TagList, slices.Concat(bodyBytes(items), toldItem(impl.TagBytes, signature)))
}

func bodyBytes(items []impl.Item) []byte {
	var inside []byte
	for _, item := range items {
		inside = append(inside, toldItem(item.Tag, item.Body)...)
	}
	return toldItem(impl.TagList, inside)
}

func toldCertForm(c impl.Cert) []byte {
	return certBytes(toldCertItems(c), c.Signature)
}

func toldTexts(body []byte) ([]string, bool) {
	list := toldItems(body)
	var texts []string
	for _, item := range list.Items {
		if item.Tag != impl.TagText {
			return nil, false
		}
		texts = append(texts, string(item.Body))
	}
	return texts, list.Good
}

func tagsOf(list impl.ItemList) []int64 {
	var tags []int64
	for _, item := range list.Items {
		tags = append(tags, item.Tag)
	}
	return tags
}

// toldListIn answers the items of a list that is all there is of b, if they have these tags.
func toldListIn(b []byte, tags ...int64) ([]impl.Item, bool) {
	whole := toldItemAt(b, 0)
	inside := toldItems(whole.Body)
	if !whole.Good || whole.Tag != impl.TagList || whole.Next != int64(len(b)) || !inside.Good || !slices.Equal(tagsOf(inside), tags) {
		return nil, false
	}
	return inside.Items, true
}

// toldDecode reads item by item, and asks of each for its form.
func toldDecode(b []byte) impl.CertResult {
	outer, good := toldListIn(b, impl.TagList, impl.TagBytes)
	if !good {
		return impl.CertResult{}
	}
	items, good := toldListIn(toldItem(impl.TagList, outer[0].Body), 2, 4, 12, 12, 24, 24, 4, 48, 1, 2, 2, 48, 48)
	if !good || !bytes.Equal(items[0].Body, []byte{1}) {
		return impl.CertResult{}
	}
	from, until := toldTime(items[4].Body), toldTime(items[5].Body)
	pathLimit, uses := toldInteger(items[9].Body), toldInteger(items[10].Body)
	hosts, hostsGood := toldTexts(items[7].Body)
	permitted, permittedGood := toldTexts(items[11].Body)
	excluded, excludedGood := toldTexts(items[12].Body)
	flag := string(items[8].Body)
	c := impl.Cert{Serial: items[1].Body, Issuer: string(items[2].Body), Subject: string(items[3].Body), From: from.Value, Until: until.Value,
		Key: items[6].Body, Hosts: hosts, Authority: flag == "\xff", PathLimit: pathLimit.Value, Uses: uses.Value,
		Permitted: permitted, Excluded: excluded, Signature: outer[1].Body}
	lists := hostsGood && permittedGood && excludedGood
	numbers := from.Good && until.Good && pathLimit.Good && uses.Good
	if !lists || !numbers || flag != "\xff" && flag != "\x00" || toldCertFault(c) != 0 {
		return impl.CertResult{}
	}
	return impl.CertResult{Good: true, Cert: c}
}

func sameCert(a impl.Cert, b impl.Cert) bool {
	return bytes.Equal(a.Serial, b.Serial) && a.Issuer == b.Issuer && a.Subject == b.Subject && a.From == b.From && a.Until == b.Until &&
		bytes.Equal(a.Key, b.Key) && slices.Equal(a.Hosts, b.Hosts) && a.Authority == b.Authority && a.PathLimit == b.PathLimit &&
		a.Uses == b.Uses && slices.Equal(a.Permitted, b.Permitted) && slices.Equal(a.Excluded, b.Excluded) &&
		bytes.Equal(a.Signature, b.Signature)
}

func cloneCert(c impl.Cert) impl.Cert {
	c.Serial, c.Key, c.Signature = bytes.Clone(c.Serial), bytes.Clone(c.Key), bytes.Clone(c.Signature)
	c.Hosts, c.Permitted, c.Excluded = slices.Clone(c.Hosts), slices.Clone(c.Permitted), slices.Clone(c.Excluded)
	return c
}

// certInShort is as much of a certificate as a message may show.
func certInShort(c impl.Cert) string {
	return fmt.Sprintf("the certificate %x, %q, %q, %d..%d, %d hosts, %v, %d, %d, %d and %d areas", c.Serial, c.Issuer, c.Subject, c.From, c.Until,
		len(c.Hosts), c.Authority, c.PathLimit, c.Uses, len(c.Permitted), len(c.Excluded))
}

// withoutSignature is what is issued.
func withoutSignature(c impl.Cert) impl.Cert {
	c = cloneCert(c)
	c.Signature = nil
	return c
}

// plainLeaf and plainAuthority are good ones of which tests change a part.
func plainLeaf() impl.Cert {
	return impl.Cert{Serial: []byte{7, 0, 1}, Issuer: "Middle", Subject: "A leaf", From: 1000, Until: 2000000000, Key: upwards(32),
		Hosts: []string{"*.shop.example", "shop.example"}, PathLimit: -1, Uses: impl.UseServer, Signature: turned(upwards(64))}
}

func plainAuthority() impl.Cert {
	return impl.Cert{Serial: []byte{9}, Issuer: "Root", Subject: "Middle", From: 0, Until: impl.MaxTime, Key: full(32),
		Hosts: []string{"authority.example"}, Authority: true, PathLimit: 2, Uses: impl.UseAuthority | impl.UseServer,
		Permitted: []string{"a.example", "example"}, Excluded: []string{"bad.example", "worse.example"}, Signature: upwards(64)}
}

func randomTitle(r *rand.Rand, n int) string {
	title := make([]byte, n)
	for i := range title {
		title[i] = byte(32 + r.Intn(95))
	}
	return string(title)
}

func randomLabel(r *rand.Rand, n int) string {
	const inner, outer = "abcdefghijklmnopqrstuvwxyz0123456789-", 36
	label := make([]byte, n)
	for i := range label {
		label[i] = inner[r.Intn(len(inner))]
	}
	label[0], label[n-1] = inner[r.Intn(outer)], inner[r.Intn(outer)]
	return string(label)
}

// randomName has at least two labels and at most 126 bytes, so that it may stand behind a star.
func randomName(r *rand.Rand) string {
	name := randomLabel(r, 1+r.Intn(10)) + "." + randomLabel(r, 1+r.Intn(10))
	for r.Intn(3) > 0 {
		longer := randomLabel(r, 1+r.Intn(63)) + "." + name
		if len(longer) > 126 {
			break
		}
		name = longer
	}
	return name
}

func risingNames(r *rand.Rand, count int, stars bool) []string {
	var names []string
	for len(names) < count {
		name := randomName(r)
		if stars && r.Intn(2) == 0 {
			name = "*." + name
		}
		names = append(names, name)
		slices.Sort(names)
		names = slices.Compact(names)
	}
	return names
}

func edgeOr(r *rand.Rand, edges []int64, limit int64) int64 {
	if r.Intn(2) == 0 {
		return edges[r.Intn(len(edges))]
	}
	return r.Int63n(limit + 1)
}

// randomCert is well-formed, with ends of bounds more often than chance has them.
func randomCert(r *rand.Rand, authority bool) impl.Cert {
	counts := []int64{0, 1, 2, impl.MaxHosts - 1, impl.MaxHosts}
	times := []int64{0, 1, 951782400, impl.MaxTime - 1, impl.MaxTime}
	from, until := edgeOr(r, times, impl.MaxTime), edgeOr(r, times, impl.MaxTime)
	c := impl.Cert{
		Serial:    randomList(r, int(1+edgeOr(r, []int64{0, 19}, 19))),
		Issuer:    randomTitle(r, int(1+edgeOr(r, []int64{0, 63}, 63))),
		Subject:   randomTitle(r, int(1+edgeOr(r, []int64{0, 63}, 63))),
		From:      min(from, until),
		Until:     max(from, until),
		Key:       randomList(r, 32),
		Hosts:     risingNames(r, int(edgeOr(r, counts, impl.MaxHosts)), true),
		PathLimit: -1,
		Uses:      1 + r.Int63n(3),
		Signature: randomList(r, 64),
	}
	c.Serial[0] |= 1
	if authority {
		c.Authority = true
		c.PathLimit = edgeOr(r, []int64{-1, 0, impl.MaxPathLimit}, impl.MaxPathLimit)
		c.Uses = 4 + r.Int63n(4)
		c.Permitted = risingNames(r, int(edgeOr(r, counts, impl.MaxHosts)), false)
		c.Excluded = risingNames(r, int(edgeOr(r, counts, impl.MaxHosts)), false)
	}
	return c
}

// greatestCert has as many bytes as there can be.
func greatestCert() impl.Cert {
	c := plainAuthority()
	c.Serial, c.Issuer, c.Subject = full(20), strings.Repeat("~", 64), strings.Repeat(" ", 64)
	c.Hosts, c.Permitted = nil, nil
	for i := range impl.MaxHosts {
		first, last := strings.Repeat("x", 63)+".", string(rune('a'+i))
		c.Hosts = append(c.Hosts, "*."+first+strings.Repeat("y", 61)+last)
		c.Permitted = append(c.Permitted, first+strings.Repeat("y", 62)+"."+last)
	}
	c.Excluded = slices.Clone(c.Permitted)
	c.PathLimit, c.Uses = impl.MaxPathLimit, 7
	return c
}

// manyCerts are well-formed ones of every make.
func manyCerts(r *rand.Rand, count int) []impl.Cert {
	certs := []impl.Cert{plainLeaf(), plainAuthority(), greatestCert()}
	for i := range count {
		certs = append(certs, randomCert(r, i%2 == 0))
	}
	return certs
}

// The certificates of the tests have what the tests want of them.
func TestToldCerts(t *testing.T) {
	r := rand.New(rand.NewSource(191))
	for _, c := range manyCerts(r, 300) {
		if fault := toldCertFault(c); fault != 0 {
			t.Errorf("%s has the fault %d", certInShort(c), fault)
		}
		if back := toldDecode(toldCertForm(c)); !back.Good || !sameCert(back.Cert, c) {
			t.Errorf("%s is told as another", certInShort(c))
		}
	}
	for _, name := range slices.Concat(greatestCert().Hosts, greatestCert().Permitted) {
		if len(name) < 128 {
			t.Errorf("%q may be longer", name)
		}
	}
}
