package tests

import (
	"bytes"
	"fmt"
	"math/rand"
	"slices"
	"strings"
	"testing"

	"loop.example/g00004/impl"
)

// ParseWorld: what was told comes back, and whatever differs from the one form in anything is refused. A text with a change
// may well be another world; then that one is read.

// changedTexts counts, of texts with one change each, those that are worlds.
type changedTexts struct {
	good int
	bad  int
}

// readChanged holds each of the texts to the chapter done another way. No text but the first itself may be read as its world.
func readChanged(t *testing.T, what string, text string, changed []string) changedTexts {
	t.Helper()
	form := worldForm()
	var count changedTexts
	for _, other := range changed {
		if checkRead(t, form, what, other) {
			count.good++
			if other != text && sameWorld(impl.ParseWorld(other).World, impl.ParseWorld(text).World) {
				t.Errorf("%s: another text of the same world: %s", what, differing(other, text))
			}
		} else {
			count.bad++
		}
	}
	return count
}

func checkAllBad(t *testing.T, what string, text string, changed []string) {
	t.Helper()
	if count := readChanged(t, what, text, changed); count.good != 0 || count.bad != len(changed) || count.bad == 0 {
		t.Errorf("%s: %d of %d are worlds", what, count.good, len(changed))
	}
}

func checkSomeGood(t *testing.T, what string, text string, changed []string) {
	t.Helper()
	if count := readChanged(t, what, text, changed); count.good == 0 || count.bad == 0 {
		t.Errorf("%s: %d are worlds, and %d are none", what, count.good, count.bad)
	}
}

func fullText(t *testing.T) string {
	t.Helper()
	return checkWorldText(t, "full", fullWorld())
}

// linesIn has the line feeds with the lines.
func linesIn(text string) []string {
	return slices.Collect(strings.Lines(text))
}

func TestReadWhatIsNoText(t *testing.T) {
	t.Parallel()
	text := fullText(t)
	for _, s := range []string{"", "\n", " ", "\n\n", "-", "0", "bad", "bad\n", "client", "client\n", "client ", "server\n", "\x00", "\xff", "\ufeff", "fault 6\n", "saved -\nwindow 0\n", "connection\n", "flush client 0 0 -\n"} {
		checkNoWorld(t, "short", s)
		checkNoWorld(t, "ahead", s+"\n"+text)
		checkNoWorld(t, "behind", text+s+"\n")
		if s != "" {
			checkNoWorld(t, "right ahead", s+text)
			if s != "flush client 0 0 -\n" {
				checkNoWorld(t, "right behind", text+s)
			}
		}
	}
	checkNoWorld(t, "twice", text+text)
	checkNoWorld(t, "a report", impl.FormatReport(impl.RunWorld(fullWorld())))
	checkNoWorld(t, "upper case", strings.ToUpper(text))
	checkNoWorld(t, "no line feeds", strings.ReplaceAll(text, "\n", " "))
	checkNoWorld(t, "no blanks", strings.ReplaceAll(text, " ", "\n"))
}

func TestReadCutTexts(t *testing.T) {
	t.Parallel()
	text := fullText(t)
	var beginnings, rests []string
	for at := range len(text) {
		beginnings = append(beginnings, text[:at])
		if at > 0 {
			rests = append(rests, text[at:])
		}
	}
	checkAllBad(t, "a rest", text, rests)
	checkSomeGood(t, "a beginning", text, beginnings)
	for _, s := range beginnings {
		if !strings.HasSuffix(s, "\n") {
			checkNoWorld(t, "a beginning without a line feed", s)
		}
	}
}

// onlyLines are the words of lines that there is one of; none of them may be missing, twice or elsewhere.
func onlyLines() []string {
	return []string{"client", "saved", "server", "cert"}
}

func TestReadLinesThatAreMissingOrTwice(t *testing.T) {
	t.Parallel()
	text := fullText(t)
	lines := linesIn(text)
	var missing, twice []string
	for i, line := range lines {
		missing = append(missing, strings.Join(slices.Delete(slices.Clone(lines), i, i+1), ""))
		twice = append(twice, strings.Join(slices.Insert(slices.Clone(lines), i, line), ""))
		word, _, _ := strings.Cut(line, " ")
		if slices.Contains(onlyLines(), word) && word != "saved" {
			checkNoWorld(t, "without "+word, missing[i])
		}
		if slices.Contains(onlyLines(), word) && word != "cert" || word == "mark" {
			checkNoWorld(t, "twice "+word, twice[i])
		}
	}
	checkSomeGood(t, "missing", text, missing)
	checkSomeGood(t, "twice", text, twice)
}

func TestReadLinesOutOfTheirOrder(t *testing.T) {
	t.Parallel()
	text := fullText(t)
	lines := linesIn(text)
	var exchanged, moved []string
	for i := range lines {
		for j := range i {
			other := slices.Clone(lines)
			other[i], other[j] = other[j], other[i]
			exchanged = append(exchanged, strings.Join(other, ""))
		}
		for j := range lines {
			rest := slices.Delete(slices.Clone(lines), i, i+1)
			moved = append(moved, strings.Join(slices.Insert(rest, j, lines[i]), ""))
		}
	}
	checkSomeGood(t, "exchanged", text, exchanged)
	checkSomeGood(t, "moved", text, moved)
	// Ahead of their places stand the lines of an end itself, and of a connection.
	for _, order := range []string{"root client saved server cert mark connection flush", "client saved root server cert mark connection flush", "client root server saved cert mark connection flush",
		"server cert mark client root saved connection flush", "client root saved cert server mark connection flush", "client root saved mark server cert connection flush",
		"client root saved server mark cert connection flush", "client root saved server cert connection mark flush", "client root saved server cert connection flush mark",
		"client root saved server cert mark flush connection", "connection flush client root saved server cert mark", "flush client root saved server cert mark connection"} {
		other := ""
		for word := range strings.FieldsSeq(order) {
			other += linesWith(text, word)[0]
		}
		checkNoWorld(t, order, other)
	}
	good := ""
	for word := range strings.FieldsSeq("client root saved server cert mark connection flush") {
		good += linesWith(text, word)[0]
	}
	if !impl.ParseWorld(good).Good {
		t.Errorf("in their order: %q is no world", good)
	}
}

func TestReadUnknownLines(t *testing.T) {
	t.Parallel()
	text := fullText(t)
	lines := linesIn(text)
	var all []string
	for _, strange := range []string{"", " ", "-", "#", "# note", "dance client 0 0 -", "Flush client 0 0 -", "flush client 0 0 - ", " flush client 0 0 -", "flushes client 0 0 -", "flus client 0 0 -", "window 10", "way - -",
		"fault 6", "connection 0", "client 1 -1 -1 5 1 0 2 6832 01 02 6869", "saved -", "saved", "root", "cert", "mark", "connection", "client", "server", "flush", "write", "1 client 0 0 -", "10 client 0 0 -", "flush 0 0 0 -",
		"flush", "flush\tclient 0 0 -", "0 0 0 0 -", "bad", "roots - -", "certs -", "client server", "\x00", "é"} {
		for at := range len(lines) + 1 {
			all = append(all, strings.Join(slices.Insert(slices.Clone(lines), at, strange+"\n"), ""))
		}
	}
	checkAllBad(t, "unknown lines", text, all)
}

// wordsIn cuts a text at its blanks and line feeds, so that it can be put together again with other words.
func wordsIn(text string) [][]string {
	var all [][]string
	for line := range strings.Lines(text) {
		all = append(all, strings.Split(strings.TrimSuffix(line, "\n"), " "))
	}
	return all
}

func textOfWords(lines [][]string) string {
	var text strings.Builder
	for _, words := range lines {
		text.WriteString(strings.Join(words, " ") + "\n")
	}
	return text.String()
}

// withWords changes the words of one line.
func withWords(lines [][]string, at int, change func(words []string) []string) string {
	other := slices.Clone(lines)
	other[at] = change(slices.Clone(other[at]))
	return textOfWords(other)
}

// A word too few or too many makes a line another one, or none.
func TestReadWordsTooFewOrTooMany(t *testing.T) {
	t.Parallel()
	text := fullText(t)
	lines := wordsIn(text)
	var all []string
	for at, words := range lines {
		for place := range words {
			all = append(all, withWords(lines, at, func(w []string) []string { return slices.Delete(w, place, place+1) }))
			all = append(all, withWords(lines, at, func(w []string) []string { return slices.Insert(w, place, w[place]) }))
			all = append(all, withWords(lines, at, func(w []string) []string { return w[:place] }))
		}
		for _, more := range []string{"-", "0", "", "00", "client", "\t"} {
			all = append(all, withWords(lines, at, func(w []string) []string { return append(w, more) }))
			all = append(all, withWords(lines, at, func(w []string) []string { return slices.Insert(w, 1, more) }))
			all = append(all, withWords(lines, at, func(w []string) []string { return slices.Insert(w, 0, more) }))
			all = append(all, withWords(lines, at, func(w []string) []string { return slices.Insert(w, len(w)-1, more) }))
		}
	}
	checkAllBad(t, "words", text, all)
}

// strangeWords stand for something here or there, and for nothing elsewhere.
func strangeWords() []string {
	return []string{"", "-", "0", "1", "2", "00", "01", "+0", "+1", "-0", "-00", "-1", "-01", "--", "--1", "1-", "0.0", "1.0", "1e1", "0x1", "0b1", "0o7", "1_0", "_1", "1,0", "a", "A", "f", "F", "ff", "FF", "fF", "0g", "-ff", "ff-",
		"5000", "05000", "9223372036854775807", "9223372036854775808", "-9223372036854775808", "-9223372036854775809", "18446744073709551615", "18446744073709551616", "18446744073709551617", "18446744073709556616",
		"4294967296", "99999999999999999999999999", "client", "server", "Client", "clients", "a.b", "A.b", "a..b", "-a", "61,62", "61,,62", ",61", "61,", ",", "61,61", "61,-", "-,61", "-,-", "61,6", "61,0A", "6f;6e", "nil",
		"NaN", "true", "\t", "\x00", "\r", "é", "\xff", "٣", "１", strings.Repeat("0", 64), strings.Repeat("0", 63), strings.Repeat("0", 66), strings.Repeat("A", 64), strings.Repeat("61", 33), strings.Repeat("a", 129)}
}

func TestReadOtherWords(t *testing.T) {
	t.Parallel()
	text := fullText(t)
	lines := wordsIn(text)
	var all []string
	for at, words := range lines {
		for place := range words {
			for _, other := range strangeWords() {
				all = append(all, withWords(lines, at, func(w []string) []string {
					w[place] = other
					return w
				}))
			}
		}
	}
	checkSomeGood(t, "other words", text, all)
}

// otherForms are words that have the meaning of a word, but another form.
func otherForms(word string) []string {
	all := []string{" " + word, word + " ", "\t" + word, word + "\t", word + "\r", word + "\v", word + "\f", word + "\u00a0", "\u2003" + word, word + "\x00", "\ufeff" + word, "\"" + word + "\"", word + ";", "+" + word, "0" + word, "00" + word, word + ".0",
		word + "e0", "0x" + word, strings.ToUpper(word), word + ",", "," + word, word + "\n"}
	if rest, negative := strings.CutPrefix(word, "-"); negative && rest != "" {
		all = append(all, "-0"+rest, "−"+rest, "- "+rest)
	}
	return slices.DeleteFunc(all, func(other string) bool { return other == word })
}

func TestReadOtherForms(t *testing.T) {
	t.Parallel()
	text := fullText(t)
	lines := wordsIn(text)
	var all []string
	for at, words := range lines {
		for place, word := range words {
			for _, other := range otherForms(word) {
				all = append(all, withWords(lines, at, func(w []string) []string {
					w[place] = other
					return w
				}))
			}
		}
	}
	// Some of them make another host, or another list of bytes.
	checkSomeGood(t, "other forms", text, all)
}

// The hosts are words as they are: each that is none is refused.
func TestReadHosts(t *testing.T) {
	t.Parallel()
	lines := wordsIn(fullText(t))
	for _, host := range append(noHosts(), "a b", "a\n", "\n", "a,b", "a\tb", "é", "a_", "shop.example.", "SHOP.example") {
		checkNoWorld(t, "a client's", withWords(lines, 0, func(w []string) []string { return append(w[:4], host, w[5]) }))
		checkNoWorld(t, "a ticket's", withWords(lines, 4, func(w []string) []string { return append(w[:7], host, w[8]) }))
	}
	for _, host := range append(stateHosts(), "0", "client", "server", "61") {
		for _, other := range []string{withWords(lines, 0, func(w []string) []string { return append(w[:4], host, w[5]) }), withWords(lines, 4, func(w []string) []string { return append(w[:7], host, w[8]) })} {
			if !checkRead(t, worldForm(), "a host", other) {
				t.Errorf("the host %q is refused", host)
			}
		}
	}
}

// A number that is too great does not come round.
func TestReadGreatNumbers(t *testing.T) {
	t.Parallel()
	lines := wordsIn(checkWorldText(t, "bare", bareWorld(visit(5, ""), copyOf(0, 3))))
	for at, places := range map[int][]int{0: {2, 3}, 1: {2, 3, 6, 7, 8}, 3: {1, 3}, 4: {1, 3}} {
		for _, place := range places {
			for _, other := range []string{"9223372036854775807", "9223372036854775808", "-9223372036854775808", "-9223372036854775809", "18446744073709551615", "18446744073709551616", "18446744073709551617", "-18446744073709551616",
				"4294967296", "-4294967296", "79228162514264337593543950336", "340282366920938463463374607431768211456", strings.Repeat("9", 400), "1" + strings.Repeat("0", 64), "-2"} {
				changed := withWords(lines, at, func(w []string) []string {
					w[place] = other
					return w
				})
				// A time may be more than 32 bits have.
				if good := checkRead(t, worldForm(), "great numbers", changed); good && other != "4294967296" {
					t.Errorf("line %d, word %d: %s is read", at, place, other)
				}
			}
		}
	}
}

// Every byte of a text: another in its place, none, or one more.
func TestReadOtherBytes(t *testing.T) {
	t.Parallel()
	text := checkWorldText(t, "few", worldOf(withoutEarly(protocolClient()), bareWorld().Server, visit(7, "e", writeStep(1, "hi"), flipStep(0, 12, 9)), copyOf(0, 10)))
	r := rand.New(rand.NewSource(604))
	var all []string
	for at := range len(text) {
		all = append(all, text[:at]+text[at+1:], text[:at]+text[at:at+1]+text[at:])
		for _, other := range []byte{' ', '\n', '-', '0', 'F', 'g', ',', '\r', byte(r.Intn(256)), text[at] ^ 0x20, text[at] + 1, text[at] | 0x80} {
			all = append(all, text[:at]+string([]byte{other})+text[at+1:], text[:at]+string([]byte{other})+text[at:])
		}
	}
	checkSomeGood(t, "other bytes", text, all)
}

// White space, of any kind, at any place where there may be some or none.
func TestReadWhiteSpace(t *testing.T) {
	t.Parallel()
	text := fullText(t)
	var all []string
	for at := range len(text) + 1 {
		isEdge := at == 0 || at == len(text) || text[at-1] == ' ' || text[at-1] == '\n' || text[at] == ' ' || text[at] == '\n'
		for _, space := range []string{" ", "\n", "\t", "\r", "\v", "\f", "\u0085", "\u00a0", "\u2028", "\u3000", "\ufeff", "\x00"} {
			if isEdge {
				all = append(all, text[:at]+space+text[at:])
			}
			if at < len(text) && (text[at] == ' ' || text[at] == '\n') && space != text[at:at+1] {
				all = append(all, text[:at]+space+text[at+1:])
			}
		}
	}
	all = append(all, strings.ReplaceAll(text, "\n", "\r\n"), strings.ReplaceAll(text, " ", "\t"), strings.ReplaceAll(text, " ", "  "), strings.TrimSuffix(text, "\n"), text+"\n", "\n"+text, text+"\r", text+" ", " "+text)
	checkAllBad(t, "white space", text, all)
}

// certText is a text with one certificate in these bytes.
func certText(form []byte) string {
	lines := wordsIn(impl.FormatWorld(bareWorld()))
	return withWords(lines, 2, func(w []string) []string { return []string{w[0], toldHex(form)} })
}

func TestReadCerts(t *testing.T) {
	t.Parallel()
	cert := plainLeaf()
	form := toldCertForm(cert)
	if !impl.ParseWorld(certText(form)).Good {
		t.Fatal("a certificate is refused")
	}
	all := []string{certText(nil), certText([]byte{0}), certText([]byte{48, 0}), certText(append(bytes.Clone(form), 0)), certText(append(bytes.Clone(form), form...)), certText(form[1:]), certText([]byte("cert")), certText(impl.CertBody(cert)),
		certText(certBytes(toldCertItems(cert), nil)), certText(certBytes(toldCertItems(cert), make([]byte, 63)))}
	for at := range form {
		all = append(all, certText(form[:at]))
		for _, bit := range []byte{1, 0x80} {
			other := bytes.Clone(form)
			other[at] ^= bit
			if !toldDecode(other).Good {
				all = append(all, certText(other))
			}
		}
	}
	checkAllBad(t, "certificates", certText(form), all)
	// A well-formed one is read, whoever signed it; one that is too long is none for a server.
	var good []string
	for _, other := range append(plainCerts(), certOfSize(t, 2000)) {
		good = append(good, certText(toldCertForm(other)))
	}
	if count := readChanged(t, "well-formed", certText(form), good); count.bad != 0 {
		t.Errorf("%d certificates are refused", count.bad)
	}
	checkNoWorld(t, "too long", certText(toldCertForm(certOfSize(t, 2001))))
}

// Text of a world that has a fault is refused, though it has the form of lines.
func TestReadFaults(t *testing.T) {
	t.Parallel()
	seen := map[int64]int{}
	check := func(what string, change func(w *impl.World)) {
		w := someWorld()
		change(&w)
		fault := toldWorldFault(w)
		text := toldWorldText(w)
		seen[fault]++
		// What is only for the other role is not told, nor what is saved beside no ticket: a world with such things has the
		// text of one without.
		isTold := len(w.Client.Saved.Ticket) > 0 || toldNothing(impl.EndConfig{Saved: w.Client.Saved})
		if isTold && slices.Contains([]int64{1, 2, 5, 6, 7}, fault) {
			checkNoWorld(t, what, text)
		}
	}
	for _, one := range configChanges(t) {
		check(one.what+" of the client", func(w *impl.World) {
			one.change(&w.Client)
			w.Client.Early = nil
		})
		check(one.what+" of the server", func(w *impl.World) { one.change(&w.Server) })
	}
	for _, one := range gapAndSeedChanges() {
		check(one.what, func(w *impl.World) { one.change(&w.Connections[1]) })
		check(one.what+" of a copy", func(w *impl.World) { one.change(&w.Connections[2]) })
	}
	for _, number := range append(farNumbers(), 2, 3) {
		check("a copied number", func(w *impl.World) { w.Connections[2].Copied = number })
		check("a copied number of a visit", func(w *impl.World) { w.Connections[1].Copied = number })
	}
	for _, kind := range allStepKinds() {
		for _, s := range []impl.Step{{Number: -1}, {Number: 1 << 40}, {Count: -1}, {Count: 65537}, {Data: []byte{1, 2}, Count: 1, Number: 70000}} {
			s.Kind = kind
			check("a step", func(w *impl.World) { w.Connections[0].Steps = []impl.Step{flushStep(), s} })
		}
	}
	check("a flush at the server", func(w *impl.World) { w.Connections[0].Steps = []impl.Step{{Kind: impl.StFlush, End: 1}} })
	check("early data and steps of a copy", func(w *impl.World) { w.Connections[2].Early = []byte{1} })
	check("steps of a copy", func(w *impl.World) { w.Connections[2].Steps = []impl.Step{flushStep()} })
	check("too many early data", func(w *impl.World) { w.Connections[0].Early = make([]byte, 4097) })
	check("too many steps", func(w *impl.World) { w.Connections[0].Steps = slices.Repeat([]impl.Step{flushStep()}, 201) })
	check("too many", func(w *impl.World) { w.Connections = slices.Repeat(w.Connections[:1], 9) })
	check("too much", func(w *impl.World) {
		w.Connections[0].Steps = []impl.Step{{Kind: impl.StForge, Data: make([]byte, 200001)}}
	})
	for _, fault := range []int64{1, 2, 5, 6, 7} {
		if seen[fault] == 0 {
			t.Errorf("no world had the fault %d: %v", fault, seen)
		}
	}
}

// sizedWorld has a text of just so many bytes: a root's key has two digits a byte, and a number may have one more.
func sizedWorld(t *testing.T, size int) impl.World {
	t.Helper()
	w := fullWorld()
	base := len(impl.FormatWorld(w))
	if (size-base)%2 != 0 {
		w.Client.Pad = 10
		base++
	}
	w.Client.Roots[0].Key = make([]byte, 32+(size-base)/2)
	if got := len(toldFormatWorld(w)); got != size {
		t.Fatalf("a text of %d bytes, not of %d", got, size)
	}
	return w
}

// A text may have so many bytes and no more, though there is a text of every world.
func TestReadLongTexts(t *testing.T) {
	t.Parallel()
	for _, size := range []int{65535, 65536, mostText - 2, mostText - 1, mostText, mostText + 1, mostText + 2, mostText + 65536, 2 * mostText} {
		w := sizedWorld(t, size)
		text := checkWorldText(t, fmt.Sprint(size, " bytes"), w)
		if len(text) != size || impl.ParseWorld(text).Good != (size <= mostText) {
			t.Errorf("%d bytes of %d: good %v", len(text), size, impl.ParseWorld(text).Good)
		}
	}
}

// Texts that are long, and nothing else.
func TestReadLongNonsense(t *testing.T) {
	t.Parallel()
	text := fullText(t)
	for _, piece := range []string{"\n", " ", "-", "0", ",", "a", "\xff", "é", "client ", "client\n", "root - -\n", "mark - 0\n", "cert -\n", "connection 0 - -1 -\n", "flush client 0 0 -\n", "61,", "connection 0 " + strings.Repeat("0", 64) + " -1 -\n"} {
		for _, size := range []int{5000, mostText - len(text), mostText, 3 * mostText} {
			long := strings.Repeat(piece, size/len(piece)+1)[:size]
			checkNoWorld(t, "long", long)
			checkNoWorld(t, "long, behind a world", text+long)
			checkNoWorld(t, "long, ahead of a world", long+text)
		}
	}
	lines := wordsIn(text)
	for _, long := range []string{strings.Repeat("9", 100000), strings.Repeat("0", 100000), strings.Repeat("61,", 100000) + "61", strings.Repeat("-", 100000), strings.Repeat("a.", 100000) + "a"} {
		for at, words := range lines[:10] {
			for place := range words {
				changed := withWords(lines, at, func(w []string) []string {
					w[place] = long
					return w
				})
				// Of a root the texts and keys may be long.
				if words[0] != "root" {
					checkNoWorld(t, "a long word", changed)
				}
			}
		}
	}
}

// What is told of a world is read as that world; nothing else is read as it.
func TestPromise33Text(t *testing.T) {
	t.Parallel()
	r := rand.New(rand.NewSource(605))
	form := worldForm()
	good := 0
	for range 60 {
		w := anyWorld(r)
		text := checkWorldText(t, "any", w)
		if !checkRead(t, form, "any", text) {
			t.Errorf("%q is no world", text)
		}
		for range 40 {
			changed := meddledText(r, text)
			if checkRead(t, form, "meddled with", changed) {
				good++
				if (changed == text) != sameWorld(impl.ParseWorld(changed).World, w) {
					t.Errorf("two texts of one world: %s", differing(changed, text))
				}
			}
		}
	}
	if good < 100 {
		t.Errorf("only %d other texts were worlds", good)
	}
}

// anyWorld is without fault, and nobody need understand anybody in it.
func anyWorld(r *rand.Rand) impl.World {
	state := randomTicketState(r)
	client := impl.EndConfig{Seed: randomList(r, 32), Now: r.Int63n(lastTime + 1), Pad: r.Int63n(257), Host: randomName(r), Protocols: randomProtocols(r, r.Intn(9))}
	for range r.Intn(4) {
		client.Roots = append(client.Roots, impl.Root{Subject: string(randomList(r, r.Intn(5))), Key: randomList(r, r.Intn(35))})
	}
	if r.Intn(2) == 0 {
		client.Saved = impl.Saved{Ticket: randomList(r, 1+r.Intn(50)), Psk: state.Psk, Random: state.Random, Got: r.Int63n(client.Now + 1), Life: state.Life, Host: state.Host, Protocol: state.Protocol, Early: state.Early}
	}
	server := impl.EndConfig{Server: true, Seed: randomList(r, 32), Now: r.Int63n(lastTime + 1), Pad: r.Int63n(257), Protocols: randomProtocols(r, r.Intn(9)), KeySeed: randomList(r, 32), TicketKey: randomList(r, 32),
		Life: r.Int63n(lastLife + 1), EarlyMost: r.Int63n(lastAge + 1), Window: randomWindow(r, r.Intn(4), 5000), Certs: []impl.Cert{shortCert(r)}}
	var list []impl.Connection
	for i := range r.Intn(5) {
		c := impl.Connection{Gap: r.Int63n(lastTime + 1), Seed: randomList(r, 32), Copied: notCopied, Early: randomList(r, r.Intn(5))}
		for range r.Intn(5) {
			c.Steps = append(c.Steps, anyStep(r))
		}
		if all := originals(list, i); len(all) > 0 && r.Intn(3) == 0 {
			c = impl.Connection{Gap: c.Gap, Seed: c.Seed, Copied: all[r.Intn(len(all))]}
		}
		list = append(list, c)
	}
	return worldOf(client, server, list...)
}

func shortCert(r *rand.Rand) impl.Cert {
	for {
		if cert := randomCert(r, r.Intn(2) == 0); len(toldCertForm(cert)) <= 700 {
			return cert
		}
	}
}

// anyStep is without fault.
func anyStep(r *rand.Rand) impl.Step {
	s := leastStep(1 + r.Int63n(10))
	s.Number, s.Count = r.Int63n(mostNumber(s.Kind)+1), r.Int63n(mostCount(s.Kind)+1)
	if s.Kind != impl.StFlush {
		s.End = r.Int63n(2)
	}
	switch s.Kind {
	case impl.StWrite, impl.StForge:
		s.Data = randomList(r, r.Intn(20))
	case impl.StFlip:
		s.Data = randomList(r, 1)
	}
	return s
}

// meddledText has one thing changed, most often so that it still looks like a text.
func meddledText(r *rand.Rand, text string) string {
	lines := linesIn(text)
	at, to := r.Intn(len(lines)), r.Intn(len(lines))
	switch r.Intn(6) {
	case 0:
		lines[at], lines[to] = lines[to], lines[at]
	case 1:
		lines[at] = ""
	case 2:
		lines = slices.Insert(lines, at, lines[to])
	case 3:
		return withWords(wordsIn(text), at, func(w []string) []string {
			w[r.Intn(len(w))] = strangeWords()[r.Intn(len(strangeWords()))]
			return w
		})
	case 4:
		place := r.Intn(len(text))
		return text[:place] + string("0123456789abcdef -\n,"[r.Intn(20)]) + text[place+1:]
	case 5:
		words, others := wordsIn(text), wordsIn(lines[to])[0]
		return withWords(words, at, func(w []string) []string {
			w[r.Intn(len(w))] = others[r.Intn(len(others))]
			return w
		})
	}
	return strings.Join(lines, "")
}
