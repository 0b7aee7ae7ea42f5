package fail_test

import (
	"fmt"
	"math"
	"math/big"
	"math/rand"
	"regexp"
	"strings"
	"testing"

	"convoy/api"
	"convoy/fail"
)

func TestText(t *testing.T) {
	for _, c := range []struct {
		f    api.Fail
		text string
	}{
		{failure(0, 0, 0), "none"},
		{failure(1, 7, 3), "load 7 3"},
		{failure(1, 0, 0), "load 0 0"},
		{failure(1, -7, 3), "load -7 3"},
		{failure(1, math.MinInt, math.MaxInt), "load -9223372036854775808 9223372036854775807"},
		{failure(2, 1, 2), "panic 1 2"},
		{failure(2, 1, -2), "panic 1 -2"},
		{failure(3, 0, 0), "cancel 0 0"},
		{failure(3, 4, 5), "cancel 4 5"},
		{failure(4, 0, 0), "busy 0 0"},
		{failure(4, 1, 0), "busy 1 0"},
		{failure(5, 0, 1), "abort 0 1"},
		{failure(5, 10, 100), "abort 10 100"},
		{failure(6, 0, 0), "kind6 0 0"},
		{failure(9, 1, 2), "kind9 1 2"},
		{failure(-1, 1, 2), "kind-1 1 2"},
		{failure(0, 1, 2), "kind0 1 2"}, // its kind is none of the five
		{failure(0, 0, -1), "kind0 0 -1"},
		{failure(math.MaxInt, 0, 0), "kind9223372036854775807 0 0"},
		{failure(math.MinInt, 0, 0), "kind-9223372036854775808 0 0"},
	} {
		if s := fail.Text(c.f); s != c.text {
			t.Errorf("Text(%#v): %q, not %q", c.f, s, c.text)
		}
	}
	names := map[int]string{1: "load", 2: "panic", 3: "cancel", 4: "busy", 5: "abort"}
	for _, f := range all() {
		name, is := names[f.Kind]
		if !is {
			name = fmt.Sprintf("kind%d", f.Kind)
		}
		want := fmt.Sprintf("%s %d %d", name, f.Code, f.Run)
		if f == (api.Fail{}) {
			want = "none"
		}
		if s := fail.Text(f); s != want {
			t.Errorf("Text(%#v): %q, not %q", f, s, want)
		}
	}
}

func TestParse(t *testing.T) {
	for _, c := range []struct {
		s string
		f api.Fail
	}{
		{"none", failure(0, 0, 0)},
		{"load 7 3", failure(1, 7, 3)},
		{"load 0 1", failure(1, 0, 1)},
		{"load -1 1", failure(1, -1, 1)},
		{"load -10 20", failure(1, -10, 20)},
		{"load -9223372036854775808 9223372036854775807", failure(1, math.MinInt, math.MaxInt)},
		{"panic 1 2", failure(2, 1, 2)},
		{"panic 9223372036854775807 1", failure(2, math.MaxInt, 1)},
		{"cancel 0 0", failure(3, 0, 0)},
		{"busy 0 0", failure(4, 0, 0)},
		{"abort 0 1", failure(5, 0, 1)},
		{"abort 0 9223372036854775807", failure(5, 0, math.MaxInt)},
	} {
		if f, err := fail.Parse(c.s); f != c.f || err != api.OK {
			t.Errorf("Parse(%q): %#v, %d", c.s, f, err)
		}
	}
}

func TestParseErrors(t *testing.T) {
	for _, s := range []string{
		"", " ", "  ", "\x00", "none ", " none", "none\n", "nonen", "non", "None", "none 0 0", "none none", "none 0", "0 0 0", " 0 0",
		// Failures that may not be.
		"load 7 0", "load 7 -1", "panic 0 0", "cancel 1 0", "cancel 0 1", "busy 1 0", "busy 0 1", "busy -1 0", "abort 1 1", "abort 0 0", "abort 0 -1",
		"kind0 0 0", "kind0 0 1", "kind1 7 3", "kind6 0 0", "kind9 1 2", "kind-1 0 1", "kind 1 2", "kind", "-1 0 1", "1 7 3",
		// Numbers that are written in another way.
		"load 07 3", "load 7 03", "load +7 3", "load 7 +3", "load 00 1", "load -0 1", "load -07 1", "load --7 1", "load 0x7 3", "load 1_0 3", "load 7.0 3", "load 7 1e3", "load ７ 3",
		"busy -0 0", "busy 0 -0", "busy 00 0", "busy 0 00", "busy +0 0", "cancel 0 +0", "abort 0 01", "abort 00 1",
		"load - 1", "load 1 -", "load + 1", "load x 1", "load 1 x", "busy x 0", "busy 0 x", "cancel x y", "abort x 1",
		// Numbers that are too great or too small.
		"load 9223372036854775808 1", "load -9223372036854775809 1", "load 0 9223372036854775808", "load 0 18446744073709551617", "load 18446744073709551623 3", "abort 0 99999999999999999999", "load 4294967303000000000000 3",
		// Texts that end too early.
		"load", "load ", "load 7", "load 7 ", "l", "loa", "busy", "busy ", "busy 0", "busy 0 ", "cancel 0", "abort 0 ", "panic 1",
		// Texts that go on behind.
		"load 7 3 ", "load 7 3 4", "load 7 3x", "load 7 3\x00", "load 7 3\n", "busy 0 0 ", "busy 0 0 0", "cancel 0 0.", "abort 0 1 1",
		// Spaces and words that are other ones.
		" load 7 3", "load  7 3", "load 7  3", "load\t7 3", "load 7\t3", "load\u00a07 3", "Load 7 3", "LOAD 7 3", "loads 7 3", "oad 7 3", "load7 3", "load,7,3", "fail 7 3", "timeout 0 0", "7 3", " 7 3",
		strings.Repeat("0", 100000), "load " + strings.Repeat("9", 100000) + " 1", "load 7 " + strings.Repeat("0", 100000) + "3", strings.Repeat(" ", 100000),
	} {
		if f, err := fail.Parse(s); f != (api.Fail{}) || err != api.ErrFail {
			t.Errorf("Parse(%.40q): %#v, %d", s, f, err)
		}
	}
}

// TestParseOfAll: of failures that may not be, the text is none that Parse takes (3.2); of others, it is (3.5).
func TestParseOfAll(t *testing.T) {
	for _, f := range all() {
		want, wantErr := f, api.OK
		if !mayBe(f) {
			want, wantErr = api.Fail{}, api.ErrFail
		}
		s := fail.Text(f)
		if got, err := fail.Parse(s); got != want || err != wantErr {
			t.Errorf("Parse(%q): %#v, %d", s, got, err)
		}
		for _, other := range []string{s + " ", " " + s, s + "0 ", s + "\n", s[:len(s)-1] + "x", strings.ToUpper(s), strings.Replace(s, " ", " 0", 1), strings.Replace(s, " ", " +", 1), strings.Replace(s, " ", "  ", 1)} {
			if other == s {
				continue
			}
			if got, err := fail.Parse(other); got != (api.Fail{}) || err != api.ErrFail {
				t.Errorf("Parse(%q): %#v, %d", other, got, err)
			}
		}
	}
}

// A text of a failure that may be, by its form; that its numbers are within bounds is asked apart.
var form = regexp.MustCompile(`^(?:none|(?:load|panic) (0|-?[1-9][0-9]*) ([1-9][0-9]*)|(?:cancel|busy) 0 0|abort (0) ([1-9][0-9]*))$`)

func isText(s string) bool {
	parts := form.FindStringSubmatch(s)
	if parts == nil || strings.HasSuffix(s, "\n") {
		return false
	}
	for _, digits := range parts[1:] {
		if digits == "" {
			continue
		}
		n, ok := new(big.Int).SetString(digits, 10)
		if !ok || !n.IsInt64() {
			return false
		}
	}
	return true
}

// TestParseOfAnyText: Parse takes a text, if the chapter's words do, and what it answers has that text.
func TestParseOfAnyText(t *testing.T) {
	random := rand.New(rand.NewSource(3))
	pieces := []string{"none", "load", "panic", "cancel", "busy", "abort", "kind9", "kind1", " ", " ", " ", " ", "0", "0", "1", "7", "-", "+", "10", "-3", "9223372036854775807", "9223372036854775808", "-9223372036854775808", "-9223372036854775809", "x", "\n", ""}
	taken := 0
	for range 300000 {
		var s strings.Builder
		for range 1 + random.Intn(7) {
			s.WriteString(pieces[random.Intn(len(pieces))])
		}
		taken += hold(t, s.String())
	}
	// The form itself, with numbers of any kind.
	for range 100000 {
		s := pieces[random.Intn(8)] + " " + pieces[10+random.Intn(16)] + " " + pieces[10+random.Intn(16)]
		taken += hold(t, s)
	}
	if taken < 1000 {
		t.Errorf("only %d texts were taken", taken)
	}
}

func hold(t *testing.T, s string) int {
	t.Helper()
	f, err := fail.Parse(s)
	if !isText(s) {
		if f != (api.Fail{}) || err != api.ErrFail {
			t.Errorf("Parse(%q): %#v, %d", s, f, err)
		}
		return 0
	}
	if err != api.OK || !mayBe(f) || fail.Text(f) != s {
		t.Errorf("Parse(%q): %#v, %d", s, f, err)
	}
	return 1
}
