package key_test

import (
	"fmt"
	"math/rand"
	"regexp"
	"strconv"
	"strings"
	"testing"

	"convoy/api"
	"convoy/key"
)

func TestText(t *testing.T) {
	for _, c := range []struct {
		k    api.Key
		text string
	}{
		{named(7, "a:b"), "7:a:b"},
		{named(0, ""), "0:"},
		{named(0, "0"), "0:0"},
		{named(65535, ""), "65535:"},
		{named(65535, ":"), "65535::"},
		{named(10, " x"), "10: x"},
		{named(100, "\xff\x00"), "100:\xff\x00"},
		{named(1, strings.Repeat("k", 64)), "1:" + strings.Repeat("k", 64)},
	} {
		if s, err := key.Text(c.k); s != c.text || err != api.OK {
			t.Errorf("Text(%#v): %#v, %d", c.k, s, err)
		}
	}
	for _, k := range mayBe() {
		want := fmt.Sprintf("%d:%s", k.Space, k.Name)
		if s, err := key.Text(k); s != want || err != api.OK {
			t.Errorf("Text(%#v): %#v, %d", k, s, err)
		}
	}
	for _, k := range mayNotBe() {
		if s, err := key.Text(k); s != "" || err != api.ErrKey {
			t.Errorf("Text of a name of %d bytes: %#v, %d", len(k.Name), s, err)
		}
	}
}

func TestParse(t *testing.T) {
	long := strings.Repeat("k", 64)
	for _, c := range []struct {
		s string
		k api.Key
	}{
		{"7:a:b", named(7, "a:b")},
		{"0:", named(0, "")},
		{"0::", named(0, ":")},
		{"0:0", named(0, "0")},
		{"1:07", named(1, "07")},
		{"6553:", named(6553, "")},
		{"6554:", named(6554, "")},
		{"9999:9", named(9999, "9")},
		{"10000:", named(10000, "")},
		{"65529:", named(65529, "")},
		{"65535:", named(65535, "")},
		{"65535:\x00\xff", named(65535, "\x00\xff")},
		{"256:" + long, named(256, long)},
		{"65535:" + long, named(65535, long)},
	} {
		if k, at, err := key.Parse(c.s); k != c.k || at != 0 || err != api.OK {
			t.Errorf("Parse(%#v): %#v, %d, %d", c.s, k, at, err)
		}
	}
}

func TestParseErrors(t *testing.T) {
	long := strings.Repeat("k", 64)
	for _, c := range []struct {
		s  string
		at int
	}{
		{"", 0}, // ends too early
		{"0", 1},
		{"7", 1},
		{"65", 2},
		{"6553", 4},
		{"6554", 4},
		{"65535", 5},
		{"07:a", 1}, // a 0 ahead of other digits
		{"00:a", 1},
		{"00", 1},
		{"000000:", 1},
		{"065535:", 1},
		{"65536:", 4}, // above all spaces
		{"65536", 4},
		{"65539:x", 4},
		{"65540:", 4},
		{"65600:", 4},
		{"66000:", 4},
		{"70000:", 4},
		{"99999", 4},
		{"655350:", 5},
		{"655351", 5},
		{"100000:", 5},
		{"123456", 5},
		{"6553600000000000000000000000:", 4},
		{"18446744073709551616:", 5},
		{":", 0}, // no digit
		{":a", 0},
		{"a", 0},
		{"a:b", 0},
		{"-1:a", 0},
		{"-0:", 0},
		{"+1:a", 0},
		{" 1:a", 0},
		{"\x00", 0},
		{"\xff:", 0},
		{"/:", 0}, // the byte ahead of 0
		{"7/:", 1},
		{"7;a", 1}, // the byte behind the colon, that one is behind 9
		{"٣:a", 0}, // a digit of another script
		{"1٣:a", 1},
		{"7 :a", 1}, // digits, and no colon
		{"7a:", 1},
		{"7\xff:", 1},
		{"7,a", 1},
		{"65535x", 5},
		{"1_000:", 1},
		{"0x10:", 1},
		{"1e3:", 1},
		{"7.0:a", 1},
		{"0 ", 1},
		{"0a:" + long + long, 1},
		{"7:" + long + "k", 66}, // names that are too long
		{"7:" + long + ":", 66},
		{"7:" + long + "\x00", 66},
		{"0:" + long + long, 66},
		{"65535:" + long + "k", 70},
		{"65535:" + strings.Repeat("\xff", 1000), 70},
		{"65536:" + long + "k", 4}, // the first of two faults
	} {
		if k, at, err := key.Parse(c.s); k != (api.Key{}) || at != c.at || err != api.ErrKey {
			t.Errorf("Parse(%#v): %#v, %d, %d", c.s, k, at, err)
		}
	}
}

var number = regexp.MustCompile(`\A(0|[1-9][0-9]{0,4})\z`)

func isSpace(s string) bool {
	n, err := strconv.Atoi(s)
	return number.MatchString(s) && err == nil && n <= 65535
}

// isText tells whether s is the text of a key.
func isText(s string) bool {
	space, name, colon := strings.Cut(s, ":")
	return colon && isSpace(space) && len(name) <= 64
}

// isBeginning tells whether s is the beginning of a key's text: a colon behind it, or more digits, or nothing, make one of it.
func isBeginning(s string) bool { return s == "" || isSpace(s) || isText(s) }

// place is where s goes wrong, by the chapter's own words.
func place(s string) int {
	for i := range len(s) {
		if !isBeginning(s[:i+1]) {
			return i
		}
	}
	return len(s)
}

func checkParse(t *testing.T, s string) {
	t.Helper()
	k, at, err := key.Parse(s)
	if isText(s) {
		if text, _ := key.Text(k); text != s || at != 0 || err != api.OK {
			t.Fatalf("Parse(%#v): %#v, %d, %d", s, k, at, err)
		}
	} else if k != (api.Key{}) || at != place(s) || err != api.ErrKey {
		t.Fatalf("Parse(%#v): %#v, %d, %d", s, k, at, err)
	}
}

// TestParseOfShortTexts goes through all short texts of some bytes.
func TestParseOfShortTexts(t *testing.T) {
	var all func(s string, more int)
	all = func(s string, more int) {
		checkParse(t, s)
		if more == 0 {
			return
		}
		for _, c := range "01356:x" {
			all(s+string(c), more-1)
		}
	}
	all("", 6)
}

// TestParseOfNumbers goes through all spaces, and those that are none behind them.
func TestParseOfNumbers(t *testing.T) {
	for n := range 70000 {
		s := strconv.Itoa(n)
		checkParse(t, s)
		checkParse(t, s+":")
		checkParse(t, s+":n")
		checkParse(t, "0"+s+":n")
	}
}

// TestParseOfAltered alters texts of keys at some place.
func TestParseOfAltered(t *testing.T) {
	r := rand.New(rand.NewSource(3))
	for _, k := range append(mayBe(), mayNotBe()[:6]...) {
		text := fmt.Sprintf("%d:%s", k.Space, k.Name)
		for range 20 {
			at := r.Intn(len(text) + 1)
			checkParse(t, text[:at])
			checkParse(t, text[at:])
			checkParse(t, text[:at]+string([]byte{byte(r.Intn(256))})+text[at:])
			checkParse(t, text[:at]+string(":0123456789"[r.Intn(11)])+text[at:])
		}
	}
}

// TestParseOfText: 2.4.
func TestParseOfText(t *testing.T) {
	for _, k := range mayBe() {
		s, _ := key.Text(k)
		if got, at, err := key.Parse(s); got != k || at != 0 || err != api.OK {
			t.Errorf("Parse(%#v): %#v, %d, %d", s, got, at, err)
		}
	}
}
