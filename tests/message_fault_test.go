package tests

import (
	"math/rand"
	"slices"
	"strings"
	"testing"

	"loop.example/g00004/impl"
)

// What chapter 13 says of the rules of a message, and of what there is of one that breaks some.

// messageChange is to one field of a message (or to what hangs on it), and breaks one rule, or none where rule is 0.
type messageChange struct {
	rule   int64
	field  string
	change func(m *impl.Message)
}

func (one messageChange) of(m impl.Message) impl.Message {
	m = cloneMessage(m)
	one.change(&m)
	return m
}

// checkMessageFault holds a message to the first rule that it breaks, and to what is made of it then.
func checkMessageFault(t *testing.T, m impl.Message, want int64) {
	t.Helper()
	if got := impl.MessageFault(m); got != want || toldMessageFault(m) != want {
		t.Errorf("%s: got %d, want %d, told %d", messageInShort(m), got, want, toldMessageFault(m))
	}
	if want != 0 {
		checkList(t, "encoded though not well-formed", impl.EncodeMessage(m), nil)
		checkList(t, "head of what is not well-formed", impl.HelloHead(m), nil)
		return
	}
	form := toldMessageForm(m)
	checkList(t, "encoded", impl.EncodeMessage(m), form)
	if m.Kind == 1 && len(m.Ticket) > 0 {
		checkList(t, "head", impl.HelloHead(m), form[:len(form)-32])
	} else {
		checkList(t, "head of another message", impl.HelloHead(m), nil)
	}
}

// otherKinds would be one of the nine if they were cut to fewer bits, or stand beside one.
func otherKinds() []int64 {
	kinds := append(strangeNumbers(), 0, -1, 3, 6, 7, 9, 10, 12, 14, 16, 19, 21, 23, 25, 255, 256+2, 1<<32+8, -255)
	for _, kind := range toldKinds() {
		kinds = append(kinds, kind+256, kind-256, kind+1<<32, kind+1<<16, -kind, kind|1<<62)
	}
	return kinds
}

// fieldSetters set one field each to values that are not zero.
func fieldSetters() map[string][]func(m *impl.Message) {
	setters := map[string][]func(m *impl.Message){}
	for _, v := range append(strangeNumbers(), 1, -1, 2) {
		setters["Version"] = append(setters["Version"], func(m *impl.Message) { m.Version = v })
		setters["Age"] = append(setters["Age"], func(m *impl.Message) { m.Age = v })
		setters["Early"] = append(setters["Early"], func(m *impl.Message) { m.Early = v })
	}
	for _, n := range []int{1, 31, 32, 64, 256} {
		for _, list := range [][]byte{make([]byte, n), upwards(n)} {
			setters["Random"] = append(setters["Random"], func(m *impl.Message) { m.Random = list })
			setters["Share"] = append(setters["Share"], func(m *impl.Message) { m.Share = list })
			setters["Ticket"] = append(setters["Ticket"], func(m *impl.Message) { m.Ticket = list })
			setters["Binder"] = append(setters["Binder"], func(m *impl.Message) { m.Binder = list })
			setters["Proof"] = append(setters["Proof"], func(m *impl.Message) { m.Proof = list })
			setters["Certs"] = append(setters["Certs"], func(m *impl.Message) { m.Certs = []impl.Blob{{Data: list}} })
		}
	}
	for _, text := range []string{"a", "A", "\x00", "shop.example", longName(129)} {
		setters["Host"] = append(setters["Host"], func(m *impl.Message) { m.Host = text })
		setters["Protocols"] = append(setters["Protocols"], func(m *impl.Message) { m.Protocols = []string{text} })
	}
	setters["Protocols"] = append(setters["Protocols"], func(m *impl.Message) { m.Protocols = []string{""} })
	setters["Certs"] = append(setters["Certs"], func(m *impl.Message) { m.Certs = make([]impl.Blob, 1) })
	setters["Resumed"] = append(setters["Resumed"], func(m *impl.Message) { m.Resumed = true })
	return setters
}

// fieldsOf are the fields that a kind has.
func fieldsOf(kind int64) []string {
	parts, _ := toldParts(kind)
	names := map[rune]string{'V': "Version", 'R': "Random", 'S': "Share", 'H': "Host", 'P': "Protocols", 'T': "Ticket", 'A': "Age", 'e': "Early",
		'E': "Early", 'B': "Binder", 'r': "Resumed", 'C': "Certs", 'p': "Proof", 'f': "Proof"}
	var fields []string
	for _, part := range strings.ReplaceAll(parts, "?", "") {
		fields = append(fields, names[part])
	}
	return fields
}

func kindChanges(m impl.Message) []messageChange {
	var all []messageChange
	for _, kind := range otherKinds() {
		all = append(all, messageChange{1, "Kind", func(m *impl.Message) { m.Kind = kind }})
	}
	for field, setters := range fieldSetters() {
		for _, set := range setters {
			if !slices.Contains(fieldsOf(m.Kind), field) {
				all = append(all, messageChange{2, field, set})
			}
		}
	}
	// A map gives them out in any order.
	slices.SortStableFunc(all, func(a, b messageChange) int { return strings.Compare(a.field, b.field) })
	return all
}

// sizedChanges set a list that has to have just so many bytes.
func sizedChanges(field string, size int, set func(m *impl.Message, list []byte)) []messageChange {
	var all []messageChange
	for _, n := range []int{0, 1, size - 1, size + 1, 2 * size, size / 2, 256, 256 + size, 65536 + size} {
		all = append(all, messageChange{3, field, func(m *impl.Message) { set(m, upwards(n)) }})
	}
	for _, list := range [][]byte{make([]byte, size), full(size), upwards(size)} {
		all = append(all, messageChange{0, field, func(m *impl.Message) { set(m, list) }})
	}
	return all
}

func numberChanges(rule int64, field string, most int64, set func(m *impl.Message, v int64)) []messageChange {
	var all []messageChange
	for _, v := range append(strangeNumbers(), -1, 0, 1, 2, 3, 254, most-1, most, most+1, most+2, 2*most+2, most+257) {
		broken := rule
		if v >= 0 && v <= most {
			broken = 0
		}
		all = append(all, messageChange{broken, field, func(m *impl.Message) { set(m, v) }})
	}
	return all
}

func messageHostChanges() []messageChange {
	var all []messageChange
	wrong := []string{"", ".", "a.", ".a", "a..b", "A", "a_b", "-a", "a-", "*.a.b", "*", longName(129), longName(300), strings.Repeat("a", 64), "a b", "\x00", "é"}
	for _, name := range append(wrong, noNames()...) {
		all = append(all, messageChange{4, "Host", func(m *impl.Message) { m.Host = name }})
	}
	for _, name := range []string{"a", "0", "a.b", "xn--a", longName(127), longName(128), strings.Repeat("a", 63)} {
		all = append(all, messageChange{0, "Host", func(m *impl.Message) { m.Host = name }})
	}
	return all
}

func protocolChanges(most int) []messageChange {
	wide, wider := strings.Repeat("w", 32), strings.Repeat("w", 33)
	wrong := [][]string{longProtocols(most + 1), longProtocols(most + 2), {""}, {wider}, {strings.Repeat("w", 256)}, {strings.Repeat("w", 288)},
		{"a", ""}, {"", "a"}, {"a", wider}, {wider, "a"}, {"a", "a"}, {"", ""}, {"a", "b", "a"}, {"a", "b", "b"}, {"a", "a", "b"}, {wide, wide},
		slices.Repeat([]string{"a"}, 9), make([]string, 256), countedNames(256), countedNames(257), countedNames(264)}
	if most == 8 {
		for i := range 8 {
			for j := range i {
				doubled := longProtocols(8)
				doubled[i] = doubled[j]
				wrong = append(wrong, doubled)
			}
			short, long := longProtocols(8), longProtocols(8)
			short[i], long[i] = "", wider
			wrong = append(wrong, short, long)
		}
	}
	good := [][]string{nil, {}, {"a"}, {wide}, {"\x00"}, {"A é\xff"}, {" "}}
	if most == 8 {
		good = append(good, []string{"a", "b"}, []string{"b", "a"}, []string{"a", "aa", "A"}, []string{wide, wide[1:], wide[2:]}, longProtocols(7), longProtocols(8))
	}
	var all []messageChange
	for _, list := range wrong {
		all = append(all, messageChange{5, "Protocols", func(m *impl.Message) { m.Protocols = list }})
	}
	for _, list := range good {
		all = append(all, messageChange{0, "Protocols", func(m *impl.Message) { m.Protocols = list }})
	}
	return all
}

func ticketChanges(ofNone int64) []messageChange {
	var all []messageChange
	for _, n := range []int{401, 402, 512, 656, 800, 65536, 65537, 65936} {
		all = append(all, messageChange{6, "Ticket", func(m *impl.Message) { m.Ticket = upwards(n) }})
	}
	for _, n := range []int{1, 2, 255, 256, 399, 400} {
		all = append(all, messageChange{0, "Ticket", func(m *impl.Message) { m.Ticket = upwards(n) }})
	}
	return append(all, messageChange{ofNone, "Ticket", func(m *impl.Message) { m.Ticket = nil }},
		messageChange{ofNone, "Ticket", func(m *impl.Message) { m.Ticket = []byte{} }})
}

func blobsOf(sizes ...int) []impl.Blob {
	var blobs []impl.Blob
	for _, n := range sizes {
		blobs = append(blobs, impl.Blob{Data: upwards(n)})
	}
	return blobs
}

func messageCertsChanges() []messageChange {
	var all []messageChange
	wrong := [][]int{nil, {0}, {2001}, {1, 0}, {0, 1}, {1, 2001}, {2001, 1}, {1, 1, 1, 0}, {1, 1, 1, 2001}, {1, 1, 1, 1, 1}, {2000, 2000, 2000, 2000, 2000},
		{0, 0, 0, 0, 0}, {65536}, {65537}, {67536}, slices.Repeat([]int{1}, 6), slices.Repeat([]int{1}, 256), slices.Repeat([]int{1}, 257), slices.Repeat([]int{1}, 260)}
	for _, sizes := range wrong {
		all = append(all, messageChange{8, "Certs", func(m *impl.Message) { m.Certs = blobsOf(sizes...) }})
	}
	for _, sizes := range [][]int{{1}, {2}, {2000}, {1999}, {1, 1}, {256, 255, 1}, {1, 2000, 1, 2000}, {2000, 2000, 2000, 2000}} {
		all = append(all, messageChange{0, "Certs", func(m *impl.Message) { m.Certs = blobsOf(sizes...) }})
	}
	return all
}

func firstPartChanges() []messageChange {
	return slices.Concat(numberChanges(3, "Version", 255, func(m *impl.Message, v int64) { m.Version = v }),
		sizedChanges("Random", 32, func(m *impl.Message, list []byte) { m.Random = list }),
		sizedChanges("Share", 32, func(m *impl.Message, list []byte) { m.Share = list }))
}

func setAge(m *impl.Message, v int64) {
	m.Age = v
}

func setEarly(m *impl.Message, v int64) {
	m.Early = v
}

func helloChanges(m impl.Message) []messageChange {
	all := slices.Concat(firstPartChanges(), messageHostChanges(), protocolChanges(8))
	if len(m.Ticket) > 0 {
		return slices.Concat(all, ticketChanges(3), sizedChanges("Binder", 32, func(m *impl.Message, list []byte) { m.Binder = list }),
			numberChanges(7, "Age", impl.MaxAge, setAge), numberChanges(7, "Early", 1, setEarly))
	}
	// With a ticket these have another meaning, so that they hang together.
	all = append(all, numberChanges(3, "Ticket", 0, setAge)...)
	all = append(all, numberChanges(3, "Ticket", 0, setEarly)...)
	for _, n := range []int{1, 32, 400, 401} {
		// A ticket alone has no binder.
		all = append(all, messageChange{3, "Ticket", func(m *impl.Message) { m.Ticket = upwards(n) }})
	}
	for _, n := range []int{1, 31, 32, 33, 64} {
		all = append(all, messageChange{3, "Ticket", func(m *impl.Message) { m.Binder = upwards(n) }})
	}
	return append(all, messageChange{0, "Ticket", func(m *impl.Message) { m.Ticket, m.Binder = upwards(400), full(32) }},
		messageChange{0, "Ticket", func(m *impl.Message) { m.Ticket, m.Binder = []byte{}, []byte{} }})
}

func ownChanges(m impl.Message) []messageChange {
	setProof := func(m *impl.Message, list []byte) { m.Proof = list }
	switch m.Kind {
	case 1:
		return helloChanges(m)
	case 2:
		return append(firstPartChanges(), messageChange{0, "Resumed", func(m *impl.Message) { m.Resumed = !m.Resumed }})
	case 4:
		return slices.Concat(sizedChanges("Random", 32, func(m *impl.Message, list []byte) { m.Random = list }), ticketChanges(6),
			numberChanges(7, "Age", impl.MaxAge, setAge), numberChanges(7, "Early", impl.MaxAge, setEarly))
	case 8:
		return append(protocolChanges(1), numberChanges(7, "Early", 1, setEarly)...)
	case 11:
		return messageCertsChanges()
	case 15:
		return sizedChanges("Proof", 64, setProof)
	case 20:
		return sizedChanges("Proof", 32, setProof)
	case 24:
		return numberChanges(7, "Early", 1, setEarly)
	}
	return nil
}

func messageChanges(m impl.Message) []messageChange {
	return append(kindChanges(m), ownChanges(m)...)
}

// rulesOfKind are those that a kind can break.
func rulesOfKind(m impl.Message) []int64 {
	rules := []int64{1, 2}
	own := map[int64][]int64{1: {3, 4, 5, 6, 7}, 2: {3}, 4: {3, 6, 7}, 8: {5, 7}, 11: {8}, 15: {3}, 20: {3}, 24: {7}}
	if m.Kind == 1 && len(m.Ticket) == 0 {
		return append(rules, 3, 4, 5)
	}
	return append(rules, own[m.Kind]...)
}

func TestMessageFaultOfNothing(t *testing.T) {
	checkMessageFault(t, impl.Message{}, 1)
	for _, m := range append(plainMessages(), greatestMessages()...) {
		checkMessageFault(t, m, 0)
	}
	empty := map[int64]int64{1: 3, 2: 3, 4: 3, 5: 0, 8: 0, 11: 8, 15: 3, 20: 3, 24: 0}
	for _, kind := range toldKinds() {
		checkMessageFault(t, impl.Message{Kind: kind}, empty[kind])
	}
}

func TestMessageFaultEachRuleAlone(t *testing.T) {
	for _, m := range plainMessages() {
		broken := map[int64]int{}
		for _, one := range messageChanges(m) {
			checkMessageFault(t, one.of(m), one.rule)
			broken[one.rule]++
		}
		for _, rule := range rulesOfKind(m) {
			if broken[rule] < 4 {
				t.Errorf("%s: rule %d is broken by %d changes", messageInShort(m), rule, broken[rule])
			}
			delete(broken, rule)
		}
		delete(broken, 0)
		if len(broken) > 0 {
			t.Errorf("%s: rules are broken that this kind does not have: %v", messageInShort(m), broken)
		}
	}
}

// Every kind with every field set that it does not have, to what another kind has there.
func TestMessageFaultFieldsOfOthers(t *testing.T) {
	for _, m := range plainMessages() {
		for _, other := range plainMessages() {
			mixed := cloneMessage(m)
			mixed.Kind = other.Kind
			checkMessageFault(t, mixed, toldMessageFault(mixed))
		}
		own := fieldsOf(m.Kind)
		for field, setters := range fieldSetters() {
			for _, set := range setters {
				changed := messageChange{change: set}.of(m)
				if !slices.Contains(own, field) {
					checkMessageFault(t, changed, 2)
				}
				checkMessageFault(t, changed, toldMessageFault(changed))
			}
		}
	}
}

func TestMessageFaultEveryKind(t *testing.T) {
	for kind := int64(-300); kind <= 600; kind++ {
		for _, m := range append(plainMessages(), impl.Message{}) {
			m.Kind = kind
			want := toldMessageFault(m)
			if !slices.Contains(toldKinds(), kind) {
				want = 1
			}
			checkMessageFault(t, m, want)
		}
	}
}

// fewOfEachField are some changes for every rule and field.
func fewOfEachField(r *rand.Rand, changes []messageChange, most int) []messageChange {
	type place struct {
		rule  int64
		field string
	}
	var few []messageChange
	counts := map[place]int{}
	for _, i := range r.Perm(len(changes)) {
		at := place{changes[i].rule, changes[i].field}
		if counts[at] < most {
			few = append(few, changes[i])
		}
		counts[at]++
	}
	return few
}

// Any two rules broken together, in two fields: the first that applies decides.
func TestMessageFaultFirstRuleDecides(t *testing.T) {
	r := rand.New(rand.NewSource(233))
	for _, m := range plainMessages() {
		pairs := map[[2]int64]int{}
		few := fewOfEachField(r, messageChanges(m), 5)
		for _, first := range few {
			for _, second := range few {
				both := second.of(first.of(m))
				want := toldMessageFault(both)
				if first.field != second.field {
					want = firstOf(first.rule, second.rule)
				}
				checkMessageFault(t, both, want)
				if first.field != second.field && first.rule < second.rule {
					pairs[[2]int64{first.rule, second.rule}]++
				}
			}
		}
		for i, first := range rulesOfKind(m) {
			for _, second := range rulesOfKind(m)[i+1:] {
				if pairs[[2]int64{first, second}] == 0 {
					t.Errorf("%s: rules %d and %d are never broken together", messageInShort(m), first, second)
				}
			}
		}
	}
}

func TestMessageFaultManyRulesAtOnce(t *testing.T) {
	r := rand.New(rand.NewSource(234))
	for _, m := range plainMessages() {
		changes := fewOfEachField(r, messageChanges(m), 4)
		for range 2000 {
			broken := m
			for range 1 + r.Intn(6) {
				broken = changes[r.Intn(len(changes))].of(broken)
			}
			checkMessageFault(t, broken, toldMessageFault(broken))
		}
	}
}

// What belongs to a ticket, in every way of being there or not.
func TestMessageFaultTicketAndBinder(t *testing.T) {
	for _, ticket := range []int{0, 1, 400, 401} {
		for _, binder := range []int{0, 31, 32, 33} {
			for _, age := range []int64{-1, 0, 1, impl.MaxAge, impl.MaxAge + 1} {
				for _, early := range []int64{-1, 0, 1, 2} {
					m := plainMessages()[0]
					m.Ticket, m.Binder, m.Age, m.Early = upwards(ticket), upwards(binder), age, early
					want := int64(0)
					switch {
					case ticket == 0 && (binder != 0 || age != 0 || early != 0) || ticket > 0 && binder != 32:
						want = 3
					case ticket == 401:
						want = 6
					case age == -1 || age > impl.MaxAge || early == -1 || early == 2:
						want = 7
					}
					checkMessageFault(t, m, want)
				}
			}
		}
	}
}

// Every length of each list, so that no length but its own is taken.
func TestMessageFaultEveryLength(t *testing.T) {
	for n := range 300 {
		for _, m := range plainMessages() {
			for _, set := range []func(m *impl.Message){
				func(m *impl.Message) { m.Random = upwards(n) },
				func(m *impl.Message) { m.Share = upwards(n) },
				func(m *impl.Message) { m.Binder = upwards(n) },
				func(m *impl.Message) { m.Proof = upwards(n) },
				func(m *impl.Message) { m.Protocols = []string{strings.Repeat("p", n)} },
			} {
				changed := messageChange{change: set}.of(m)
				checkMessageFault(t, changed, toldMessageFault(changed))
			}
		}
	}
	ticketed, certified := plainMessages()[0], plainMessages()[5]
	for n := range 2100 {
		ticketed.Ticket, certified.Certs = upwards(n), blobsOf(1, n)
		checkMessageFault(t, ticketed, toldMessageFault(ticketed))
		checkMessageFault(t, certified, toldMessageFault(certified))
	}
}
