package client_test

import (
	"slices"
	"strings"
	"testing"

	"convoy/api"
	"convoy/client"
)

// short is the beginning of a long text.
func short(s string) string { return s[:min(len(s), 100)] }

// told holds a text against a program, there and back.
func told(t *testing.T, l []api.Do, want string) {
	t.Helper()
	if got, at, err := client.Text(l); got != want || at != 0 || err != api.OK {
		t.Fatalf("Text: %q, %d, %d, not %q", short(got), at, err, short(want))
	}
	if got, at, err := client.Parse(want); !slices.Equal(got, l) || at != 0 || err != api.OK {
		t.Fatalf("Parse(%q): %d things, %d, %d, not %d", short(want), len(got), at, err, len(l))
	}
}

// noText holds the place and the error of Text against others.
func noText(t *testing.T, l []api.Do, wantAt int, want api.Errno) {
	t.Helper()
	if got, at, err := client.Text(l); got != "" || at != wantAt || err != want {
		t.Fatalf("Text of %d things: %q, %d, %d, not %d, %d", len(l), short(got), at, err, wantAt, want)
	}
}

// noProgram tells that a text is none, and which line is the first that is none.
func noProgram(t *testing.T, s string, wantAt int) {
	t.Helper()
	if got, at, err := client.Parse(s); len(got) != 0 || at != wantAt || err != api.ErrWord {
		t.Fatalf("Parse(%q): %d things, %d, %d, not the line %d", short(s), len(got), at, err, wantAt)
	}
}

// noLine tells that no program has such a line, wherever it stands.
func noLine(t *testing.T, line string) {
	t.Helper()
	noProgram(t, line+"\n", 0)
	noProgram(t, "sleep 1\ncall 0:a b\n"+line+"\nsleep 2\n", 2)
	noProgram(t, strings.Repeat("open 1\n", 255)+line+"\n", 255)
	noProgram(t, strings.Repeat("open 1\n", 256)+line+"\n", 256)
}

// TestText: of nothing, of each thing to do, and of several (21.1).
func TestText(t *testing.T) {
	told(t, nil, "")
	told(t, []api.Do{}, "")
	for _, row := range []struct {
		do   api.Do
		line string
	}{
		{api.Do{Op: api.DoCall}, "call 0:\n"},
		{api.Do{Op: api.DoCall, Key: named("a")}, "call 0:a\n"},
		{api.Do{Op: api.DoCall, Key: named("a b")}, "call 0:a b\n"},
		{api.Do{Op: api.DoCall, Key: named("a 3")}, "call 0:a 3\n"},
		{api.Do{Op: api.DoCall, Key: named(" a ")}, "call 0: a \n"},
		{api.Do{Op: api.DoCall, Key: api.Key{Space: 65535, Name: "a:b"}}, "call 65535:a:b\n"},
		{api.Do{Op: api.DoCall, Key: api.Key{Space: 10, Name: "\x00\xff\r"}}, "call 10:\x00\xff\r\n"},
		{api.Do{Op: api.DoStart}, "start 0: 0\n"},
		{api.Do{Op: api.DoStart, Key: named("a"), Slot: 15}, "start 0:a 15\n"},
		{api.Do{Op: api.DoStart, Key: named("a b"), Slot: 3}, "start 0:a b 3\n"},
		{api.Do{Op: api.DoStart, Key: named(" "), Slot: 3}, "start 0:  3\n"},
		{api.Do{Op: api.DoStart, Key: named("a 16"), Slot: 3}, "start 0:a 16 3\n"},
		{api.Do{Op: api.DoStart, Key: named("a "), Slot: 10}, "start 0:a  10\n"},
		{api.Do{Op: api.DoAwait}, "await 0\n"},
		{api.Do{Op: api.DoAwait, Slot: 15}, "await 15\n"},
		{api.Do{Op: api.DoForget, Key: api.Key{Space: 7, Name: "x"}}, "forget 7:x\n"},
		{api.Do{Op: api.DoForget}, "forget 0:\n"},
		{api.Do{Op: api.DoCancel, N: 1}, "cancel 1\n"},
		{api.Do{Op: api.DoCancel, N: 1024}, "cancel 1024\n"},
		{api.Do{Op: api.DoOpen}, "open 0\n"},
		{api.Do{Op: api.DoOpen, N: 255}, "open 255\n"},
		{api.Do{Op: api.DoShut}, "shut 0\n"},
		{api.Do{Op: api.DoShut, N: 255}, "shut 255\n"},
		{api.Do{Op: api.DoSleep}, "sleep 0\n"},
		{api.Do{Op: api.DoSleep, N: 5}, "sleep 5\n"},
		{api.Do{Op: api.DoSleep, N: 1 << 62}, "sleep 4611686018427387904\n"},
		{api.Do{Op: api.DoToken}, "token 0\n"},
		{api.Do{Op: api.DoToken, N: 1024}, "token 1024\n"},
	} {
		told(t, []api.Do{row.do}, row.line)
		told(t, []api.Do{row.do, row.do}, row.line+row.line)
		told(t, []api.Do{{Op: api.DoCall}, row.do, {Op: api.DoStart, Key: named("b"), Slot: 4}}, "call 0:\n"+row.line+"start 0:b 4\n")
	}
}

// TestTextEach: each thing to do that may be has a line that is its own (21.1).
func TestTextEach(t *testing.T) {
	seen := map[string]int{}
	for i, do := range good() {
		line := lineByHand(do)
		told(t, []api.Do{do}, line)
		if j, known := seen[line]; known && good()[j] != do {
			t.Fatalf("%q is the line of two", line)
		}
		seen[line] = i
	}
	for part := range slices.Chunk(good(), 256) {
		told(t, part, textByHand(part))
	}
}

// TestTextWrong: what may not be has no text: its place is told (21.1).
func TestTextWrong(t *testing.T) {
	for _, do := range bad() {
		noText(t, []api.Do{do}, 0, api.ErrDo)
		noText(t, slices.Concat(sleeps(3), []api.Do{do, {}}), 3, api.ErrDo)
		noText(t, slices.Concat(sleeps(255), []api.Do{do}), 255, api.ErrDo)
	}
}

// TestTextLines: nor has a key whose name has a byte 10, which is told behind what may not be (21.1).
func TestTextLines(t *testing.T) {
	for _, do := range unlined() {
		noText(t, []api.Do{do}, 0, api.ErrWord)
		noText(t, slices.Concat(sleeps(3), []api.Do{do, do}), 3, api.ErrWord)
		noText(t, slices.Concat(sleeps(255), []api.Do{do}), 255, api.ErrWord)
		noText(t, []api.Do{do, {Op: 8, N: -1}}, 1, api.ErrDo)
		noText(t, slices.Concat([]api.Do{do, do}, sleeps(253), []api.Do{{}}), 255, api.ErrDo)
		noText(t, slices.Concat([]api.Do{do}, sleeps(256)), 256, api.ErrMany)
		noText(t, slices.Concat([]api.Do{{}, do}, sleeps(256)), 256, api.ErrMany)
	}
}

// TestTextLong: as many as there may be have a text, and more have none; a line that is none is told ahead of that (21.1).
func TestTextLong(t *testing.T) {
	for _, n := range []int{255, 256} {
		told(t, sleeps(n), textByHand(sleeps(n)))
		told(t, slices.Repeat([]api.Do{{Op: 2, Key: named("a 3"), Slot: 15}}, n), strings.Repeat("start 0:a 3 15\n", n))
	}
	for _, n := range []int{257, 258, 512, 40000} {
		noText(t, sleeps(n), 256, api.ErrMany)
		noText(t, make([]api.Do, n), 256, api.ErrMany)
		for _, line := range []string{"sleep 5\n", "start 0:a 3\n", "call 0:\n"} {
			s := strings.Repeat(line, n)
			if got, at, err := client.Parse(s); len(got) != 0 || at != 256 || err != api.ErrMany {
				t.Fatalf("Parse of %d times %q: %d things, %d, %d", n, line, len(got), at, err)
			}
			noProgram(t, s+"\n", n)
			noProgram(t, s+"sleep\n", n)
			noProgram(t, s+"sleep 5", n)
			noProgram(t, s+"x\n"+s, n)
			noProgram(t, "x"+s, 0)
			noProgram(t, s+s[:len(s)-1], 2*n-1)
		}
	}
}

// TestParseEnds: what is behind the last end of a line is none, were it a line with one (21.1).
func TestParseEnds(t *testing.T) {
	for s, at := range map[string]int{
		"sleep 5": 0, "call 0:a": 0, "x": 0, " ": 0, "sleep 5\nsleep 6": 1, "sleep 5\n ": 1, "sleep 5\nx": 1, "sleep 5\n\r": 1, "sleep 5\nsleep 6\nawait 0": 2, "sleep 5\n\x00": 1,
		"x\nsleep 6": 0, "sleep\nsleep 6": 0, "sleep 5\nx\nsleep 6": 1,
	} {
		noProgram(t, s, at)
	}
}

// TestParseEmpty: an empty line is none, and a text of nothing has no line at all (21.1).
func TestParseEmpty(t *testing.T) {
	told(t, nil, "")
	for s, at := range map[string]int{"\n": 0, "\n\n": 0, "\nsleep 5\n": 0, "sleep 5\n\n": 1, "sleep 5\n\nsleep 5\n": 1, "sleep 5\nsleep 5\n\n\n": 2} {
		noProgram(t, s, at)
	}
}

// TestParseBlanks: there is one blank between words, and none elsewhere, but in names (21.1).
func TestParseBlanks(t *testing.T) {
	for _, line := range []string{
		"", " ", "  ", "\t", "\r", "\x00",
		" sleep 5", "sleep  5", "sleep 5 ", "sleep 5  ", "sleep ", "sleep  ", "sleep\t5", "sleep 5\r", "sleep\u00a05", "sleep 5\x00", "sleep5", "sleep 5 6", "sleep 5 x",
		" call 0:a", "call  0:a", "call", "call ", "call  ", "call\t0:a", "call0:a",
		" start 0:a 3", "start  0:a 3", "start 0:a 3 ", "start 0:a", "start 0:a ", "start 3", "start  3", "start ", "start", "start 0:", "start 0:3", "start 0:a\t3", "start 0:a 3\r",
		" await 3", "await  3", "await 3 ", "await", "await ", "await 3 3", "await\n",
		" forget 0:a", "forget  0:a", "forget", "forget ",
		"cancel", "cancel ", "cancel  1", "cancel 1 ", "cancel 1 1", "open", "open ", "open  1", "open 1 ", "shut", "shut ", "shut  1", "shut 1 ", "shut 1 2", "token", "token ", "token  1", "token 1 ", "token 1 0",
	} {
		noLine(t, line)
	}
}

// TestParseNumbers: numbers are written in one way, and lie within their bounds (21.1).
func TestParseNumbers(t *testing.T) {
	for _, number := range []string{
		"05", "00", "01", "+5", "+0", "-0", "-1", "-5", "--5", "5-", "5+", "0x5", "5.0", "5e0", "1_0", "5,", "٣", "five", "", "0b1", "0o7",
		"9223372036854775807", "9223372036854775808", "18446744073709551616", "18446744073709551621", "-9223372036854775808", "-9223372036854775809", "99999999999999999999999", "4611686018427387905", strings.Repeat("1", 1000), strings.Repeat("0", 1000) + "1",
	} {
		for _, f := range forms {
			switch {
			case f.key && f.slot:
				noLine(t, f.word+" 0:a "+number)
			case f.n || f.slot:
				noLine(t, f.word+" "+number)
			}
		}
	}
	for _, line := range []string{
		"start 0:a 16", "start 0:a 17", "start 0:a 100", "start 0:a 4294967296", "start 0:a 4294967299", "await 16", "await 17", "await 4294967299", "cancel 0", "cancel 1025", "cancel 10240", "open 256", "open 257", "shut 256", "shut 512", "token 1025", "token 2048", "sleep 4611686018427387905",
	} {
		noLine(t, line)
	}
}

// TestParseKeys: a key is written as key.Text writes it, and may be (21.1).
func TestParseKeys(t *testing.T) {
	for _, text := range []string{
		"", ":", ":a", "a", "a:b", "0", "7", "00:a", "07:a", "+7:a", "-1:a", "-0:a", "65536:a", "65537:", "100000:a", "4294967296:a", "18446744073709551616:a", " 7:a", "7 :a", "0x7:a", "7;a", "7.0:a", "٣:a", "7\x00:a",
		"0:" + strings.Repeat("n", 65), "65535:" + strings.Repeat(" ", 65), "0:" + strings.Repeat("n", 1000),
	} {
		noLine(t, "call "+text)
		noLine(t, "forget "+text)
		noLine(t, "start "+text+" 3")
	}
	// Of a start the last word is no part of the name: without it the line would be one of a call.
	noLine(t, "start 0:"+strings.Repeat("n", 62)+" n")
	told(t, []api.Do{{Op: api.DoCall, Key: named(strings.Repeat("n", 62) + " 3")}}, "call 0:"+strings.Repeat("n", 62)+" 3\n")
	told(t, []api.Do{{Op: api.DoStart, Key: named(strings.Repeat("n", 64)), Slot: 3}}, "start 0:"+strings.Repeat("n", 64)+" 3\n")
	noLine(t, "call 0:"+strings.Repeat("n", 64)+" 3")
}

// TestParseWords: a word that is none's, or one that is nearly so (21.1).
func TestParseWords(t *testing.T) {
	for _, f := range forms {
		behind := " 5"
		switch {
		case f.key && f.slot:
			behind = " 0:a 5"
		case f.key:
			behind = " 0:a"
		}
		if got, _, err := client.Parse(f.word + behind + "\n"); len(got) != 1 || got[0].Op != f.op || err != api.OK {
			t.Fatalf("%s is no word", f.word)
		}
		for _, word := range []string{
			strings.ToUpper(f.word), strings.ToUpper(f.word[:1]) + f.word[1:], f.word[:len(f.word)-1], f.word[1:], f.word + "s", f.word + f.word, "x" + f.word, f.word + "\x00", "\ufeff" + f.word, f.word + ":", "",
		} {
			noLine(t, word+behind)
		}
	}
	for _, line := range []string{"x", "run 5", "gate 5", "none 0", "0 5", "1 0:a", "5", "#", "# note", "client", "leave 1", "wait 1", "heed", "answer", "add 5", "\xff", "call", "call 5", "forget 5", "start 5 5", "await 0:a", "cancel 0:a", "open 0:a", "shut 0:a", "sleep 0:a", "token 0:a", "await 0:a 3", "call 0"} {
		noLine(t, line)
	}
}

// TestParseFirst: of two lines that are none the first is told (21.1).
func TestParseFirst(t *testing.T) {
	wrong := []string{"x\n", "sleep 05\n", "\n", "call 7\n", "start 0:a 16\n", " \n"}
	for _, one := range wrong {
		for _, other := range wrong {
			for n := range 4 {
				noProgram(t, strings.Repeat("sleep 5\n", n)+one+other, n)
				noProgram(t, strings.Repeat("sleep 5\n", n)+one+"sleep 5\n"+other+"sleep 5", n)
			}
		}
	}
}

// TestParseNames: a name goes on to the line's end, or to the last blank ahead of a slot (21.1).
func TestParseNames(t *testing.T) {
	for _, k := range kinds {
		told(t, []api.Do{{Op: api.DoCall, Key: k}, {Op: api.DoForget, Key: k}, {Op: api.DoStart, Key: k, Slot: 15}}, textByHand([]api.Do{{Op: 1, Key: k}, {Op: 4, Key: k}, {Op: 2, Key: k, Slot: 15}}))
	}
}
