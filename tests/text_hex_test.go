package tests

import (
	"bytes"
	"encoding/hex"
	"math/rand"
	"strings"
	"testing"

	"loop.example/g00004/impl"
)

// EncodeHex and DecodeHex: two digits a byte in one form alone, and one sign for none.

func checkHex(t *testing.T, b []byte, want string) {
	t.Helper()
	checkText(t, "encoded", impl.EncodeHex(b), want)
	if got := impl.DecodeHex(want); !got.Good || !bytes.Equal(got.Data, b) {
		t.Errorf("of %q: good %v, %x", want[:min(len(want), 80)], got.Good, beginning(got.Data))
	}
}

// checkUnhex holds what is decoded of any text to the chapter done another way. It tells whether it was good.
func checkUnhex(t *testing.T, s string) bool {
	t.Helper()
	got, want := impl.DecodeHex(s), toldUnhex(s)
	if got.Good != want.Good || !bytes.Equal(got.Data, want.Data) {
		t.Errorf("of %q: got %v, want %v", s, got, want)
	}
	if got.Good {
		checkText(t, "encoded again", impl.EncodeHex(got.Data), s)
	}
	return got.Good
}

func checkNoHex(t *testing.T, s string) {
	t.Helper()
	if got := impl.DecodeHex(s); got.Good || len(got.Data) != 0 {
		t.Errorf("of %q: good %v, %d bytes %x", s[:min(len(s), 80)], got.Good, len(got.Data), beginning(got.Data))
	}
}

func TestHexOfEveryByte(t *testing.T) {
	t.Parallel()
	all := upwards(256)
	for _, b := range all {
		checkHex(t, []byte{b}, hex.EncodeToString([]byte{b}))
		checkHex(t, []byte{b, 0}, hex.EncodeToString([]byte{b, 0}))
		checkHex(t, []byte{255, b}, hex.EncodeToString([]byte{255, b}))
	}
	checkHex(t, all, hex.EncodeToString(all))
	checkHex(t, []byte{0, 9, 10, 15, 16, 159, 160, 255}, "00090a0f109fa0ff")
}

func TestHexOfNothing(t *testing.T) {
	t.Parallel()
	checkHex(t, nil, "-")
	checkHex(t, []byte{}, "-")
	checkHex(t, upwards(9)[4:4], "-")
	checkHex(t, []byte("-"), "2d")
	checkHex(t, []byte{0}, "00")
	checkNoHex(t, "")
}

func TestHexOfAnyLength(t *testing.T) {
	t.Parallel()
	r := rand.New(rand.NewSource(601))
	for _, n := range []int{1, 2, 3, 15, 16, 17, 255, 256, 257, 65535, 65536, mostText, mostText + 1} {
		b := randomList(r, n)
		text := hex.EncodeToString(b)
		checkHex(t, b, text)
		checkHex(t, make([]byte, n), strings.Repeat("0", 2*n))
		checkNoHex(t, text[1:])
		checkNoHex(t, text[:2*n-1])
		checkNoHex(t, text+"0")
	}
}

// Every text of one or two signs, and each sign at every place of a longer one.
func TestHexOfEverySign(t *testing.T) {
	t.Parallel()
	good := 0
	for a := range 256 {
		if s := string([]byte{byte(a)}); s != "-" {
			checkNoHex(t, s)
		}
		for b := range 256 {
			if checkUnhex(t, string([]byte{byte(a), byte(b)})) {
				good++
			}
		}
	}
	if good != 256 {
		t.Errorf("%d texts of two signs are good", good)
	}
	for place := range 8 {
		for sign := range 256 {
			s := []byte("01ab9fe0")
			s[place] = byte(sign)
			checkUnhex(t, string(s))
		}
	}
}

func TestHexInOneFormAlone(t *testing.T) {
	t.Parallel()
	for _, s := range []string{"0", "f", "000", "0ff", "12345", "--", "-0", "0-", "-00", "00-", "0-0", "00--", "----", " -", "- ", "-\n", "A0", "0A", "FF", "fF", "Ff", "00FF", "abcdeF",
		"0G", "g0", "0g", "/0", "0:", "`a", "a@", "0x00", "0X", "x0", "00 ", " 00", "0 0", "00 00", "00\n", "\n00", "00\t", "0\x00", "\x00\x00", "00,00", ",", ",,", "+0", "+1", "é", "éé", "0é", "00é",
		"０0", "００", "\xff\xff", "0\xff", "00\xff\xff", "\xef\xbf\xbd0", "٠٠", "−", "–", "—0"} {
		checkNoHex(t, s)
		checkNoHex(t, "00"+s+"00")
		checkNoHex(t, strings.Repeat("00", 40)+s)
	}
}

// What is encoded is decoded; what is decoded, encoded again, is the same text.
func TestPromise33Hex(t *testing.T) {
	t.Parallel()
	r := rand.New(rand.NewSource(602))
	for range 3000 {
		b := randomList(r, r.Intn(40))
		checkHex(t, b, toldHex(b))
	}
	good := 0
	for range 30000 {
		s := make([]byte, r.Intn(7))
		for i := range s {
			s[i] = "0123456789abcdefABCDEF-g"[r.Intn(24)]
		}
		if checkUnhex(t, string(s)) {
			good++
		}
	}
	if good < 1000 {
		t.Errorf("only %d texts were good", good)
	}
}

func TestHexMemory(t *testing.T) {
	t.Parallel()
	encode := func(b []byte) []byte { return []byte(impl.EncodeHex(b)) }
	decode := func(b []byte) []byte { return impl.DecodeHex(string(b)).Data }
	for _, b := range [][]byte{nil, {}, {0}, upwards(2), upwards(33), upwards(1000)} {
		checkMemory(t, "EncodeHex", ofOneList(encode), b)
		checkMemory(t, "DecodeHex", ofOneList(decode), []byte(toldHex(b)))
	}
	checkMemory(t, "DecodeHex", ofOneList(decode), []byte("0g"))
}
