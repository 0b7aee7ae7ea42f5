package trace_test

import (
	"math"
	"strings"
	"testing"

	"convoy/api"
	"convoy/trace"
)

// short is the beginning of a long text.
func short(s string) string { return s[:min(len(s), 100)] }

// told holds a line against an event, there and back.
func told(t *testing.T, e api.Event, want string) {
	t.Helper()
	if got, err := trace.Line(e); got != want || err != api.OK {
		t.Fatalf("Line(%+v): %q, %d, not %q", e, got, err, want)
	}
	if got, err := trace.Parse(want); got != e || err != api.OK {
		t.Fatalf("Parse(%q): %+v, %d, not %+v", want, got, err, e)
	}
}

// noLine tells that a text is the line of no event, nor is it in a text.
func noLine(t *testing.T, s string) {
	t.Helper()
	if got, err := trace.Parse(s); got != (api.Event{}) || err != api.ErrLine {
		t.Fatalf("Parse(%q): %+v, %d", short(s), got, err)
	}
	if strings.Contains(s, "\n") {
		return
	}
	noTrace(t, s+"\n", 1, api.ErrLine)
	noTrace(t, "0 send r1\n0 send r2\n"+s+"\n", 3, api.ErrLine)
	noTrace(t, "0 send r1\n"+s+"\n0 send r2\n", 2, api.ErrLine)
}

// TestExample: the example of the chapter.
func TestExample(t *testing.T) {
	told(t, api.Event{At: 5, Kind: api.EventBegin, Run: 3, Generation: 1, Key: api.Key{Space: 7, Name: "a"}}, "5 begin r3 g1 k7:a")
	told(t, api.Event{Kind: api.EventSend, Run: 1}, "0 send r1")
	told(t, api.Event{At: 9, Kind: api.EventTell, Client: 2, Caller: 4, Run: 3, Key: named("x"), Outcome: api.Outcome{Fail: api.Fail{Kind: api.FailPanic, Code: 1, Run: 3}}}, "9 tell c2 n4 r3 f2:1:3 k0:x")
}

// TestLine: of each kind with all that it names, and with nothing of it (24.1).
func TestLine(t *testing.T) {
	for kind, want := range map[int]string{
		1: "9 join c2 n4 r3 h6 f2:1:3 k7:a b", 2: "9 begin r3 g5 h6 k7:a b", 3: "9 send r3", 4: "9 tell c2 n4 r3 f2:1:3 k7:a b", 5: "9 end r3 g5 f2:1:3 k7:a b", 6: "9 cancel r3 g5 k7:a b",
		7: "9 abandon r3 g5 k7:a b", 8: "9 forget c2 g5 k7:a b", 9: "9 keep r3 f2:1:3 k7:a b", 10: "9 drop k7:a b", 11: "9 leave c2 n4 r3 f2:1:3 k7:a b",
	} {
		told(t, filled(forms[kind-1]), want)
		word := forms[kind-1].word
		told(t, api.Event{Kind: kind}, "0 "+word)
		told(t, api.Event{At: 10, Kind: kind}, "10 "+word)
		told(t, api.Event{At: 1 << 62, Kind: kind}, "4611686018427387904 "+word)
	}
}

// TestLineAlone: of each field alone, the zero key being told as little as other things that are 0 (24.1).
func TestLineAlone(t *testing.T) {
	for _, f := range forms {
		head := "0 " + f.word
		for _, row := range []struct {
			named bool
			e     api.Event
			part  string
		}{
			{f.client, api.Event{Client: 1}, " c1"}, {f.client, api.Event{Client: 10}, " c10"}, {f.client, api.Event{Client: math.MaxInt}, " c9223372036854775807"},
			{f.caller, api.Event{Caller: 1}, " n1"}, {f.caller, api.Event{Caller: 20}, " n20"}, {f.caller, api.Event{Caller: math.MaxInt}, " n9223372036854775807"},
			{f.run, api.Event{Run: 1}, " r1"}, {f.run, api.Event{Run: 100}, " r100"}, {f.run, api.Event{Run: math.MaxInt}, " r9223372036854775807"},
			{f.generation, api.Event{Generation: 1}, " g1"}, {f.generation, api.Event{Generation: 30}, " g30"}, {f.generation, api.Event{Generation: math.MaxInt}, " g9223372036854775807"},
			{f.how, api.Event{How: 1}, " h1"}, {f.how, api.Event{How: 6}, " h6"},
			{true, api.Event{}, ""},
		} {
			if row.named {
				row.e.Kind = f.kind
				told(t, row.e, head+row.part)
			}
		}
		for _, row := range outcomes {
			if f.hasOutcomes {
				told(t, api.Event{Kind: f.kind, Outcome: row.outcome}, head+row.parts)
			}
		}
	}
}

// TestLineKeys: names with blanks, with the bytes that are masked, and with any others (24.1).
func TestLineKeys(t *testing.T) {
	for _, f := range forms {
		for _, row := range keys {
			if !f.key {
				noLine(t, "0 "+f.word+" k"+row.text)
				continue
			}
			told(t, api.Event{Kind: f.kind, Key: row.key}, "0 "+f.word+" k"+row.text)
			e := filled(f)
			e.Key = row.key
			line, _ := trace.Line(filled(f))
			told(t, e, strings.TrimSuffix(line, "7:a b")+row.text)
		}
	}
	for b := range 256 {
		text := string([]byte{byte(b)})
		if masked, is := map[int]string{10: "%0a", 13: "%0d", 37: "%25"}[b]; is {
			noLine(t, "0 drop k0:a"+text+"b")
			text = masked
		}
		told(t, api.Event{Kind: api.EventDrop, Key: named("a" + string([]byte{byte(b)}) + "b")}, "0 drop k0:a"+text+"b")
	}
}

// TestParseOrder: parts stand in one order, each once at most (24.1).
func TestParseOrder(t *testing.T) {
	told(t, api.Event{At: 1, Kind: api.EventJoin, Client: 1, Caller: 2, Run: 3, How: 4, Outcome: api.Outcome{Value: 5}, Key: named("a")}, "1 join c1 n2 r3 h4 v5 k0:a")
	parts := []string{"c1", "n2", "r3", "h4", "v5"}
	for i, one := range parts {
		for _, other := range parts[:i] {
			noLine(t, "1 join "+one+" "+other)
			noLine(t, "1 join "+one+" "+other+" k0:a")
		}
		told(t, eventOf(t, "1 join "+one), "1 join "+one)
		noLine(t, "1 join "+one+" "+one)
		noLine(t, "1 join "+one+" "+one+" k0:a")
		noLine(t, "1 join k0:"+strings.Repeat("n", 62)+" "+one)
		noLine(t, one+" 1 join")
		noLine(t, "1 "+one+" join")
	}
	for _, line := range []string{
		"join 1", "join", "1", "1 1 join", "1 join join", "1 join 1", "1 begin g1 r3", "1 begin h1 g2", "1 begin h1 r2", "1 begin r3 g1 g2", "1 begin r3 r4", "1 begin g1 r3 g1", "1 tell f1:0:1 n1", "1 tell f1:0:1 r1", "1 tell f1:0:1 v5", "1 tell v5 f1:0:1", "1 tell f1:0:1 f1:0:1", "1 forget g1 c1", "1 end f4:0:0 g1", "1 send r1 r1",
	} {
		noLine(t, line)
	}
	// Behind a key's k all is its name: no part stands there.
	told(t, api.Event{At: 1, Kind: api.EventDrop, Key: named("a k0:b")}, "1 drop k0:a k0:b")
	told(t, api.Event{At: 1, Kind: api.EventCancel, Key: named("a r3")}, "1 cancel k0:a r3")
}

// eventOf is the event of a line that has one.
func eventOf(t *testing.T, line string) api.Event {
	t.Helper()
	e, err := trace.Parse(line)
	if err != api.OK {
		t.Fatalf("Parse(%q): %d", line, err)
	}
	return e
}

// TestParseNumbers: numbers are told in one way, where they are not 0, and lie within their bounds (24.1).
func TestParseNumbers(t *testing.T) {
	wrong := []string{"", "0", "00", "01", "007", "+0", "-0", "+5", "--5", "5-", "5+", " 5", "0x5", "5.0", "5e0", "1_0", "5,", "٣", "a", "1a", "9223372036854775808", "18446744073709551616", "18446744073709551617", "99999999999999999999999", "-9223372036854775809", strings.Repeat("1", 1000), strings.Repeat("0", 1000) + "1"}
	for _, number := range wrong {
		for _, head := range []string{"9 join c", "9 join c1 n", "9 join n2 r", "9 begin g", "9 begin r1 h", "9 join v", "9 end r1 v", "9 send r", "9 forget c", "9 leave n", "9 tell r"} {
			noLine(t, head+number)
			noLine(t, head+number+" k0:a")
		}
		if number != "0" && number != "a" {
			noLine(t, number+" send r1")
		}
		noLine(t, "9 tell f"+number+":0:1")
		noLine(t, "9 tell f"+number+":0:0")
		if number != "0" {
			noLine(t, "9 tell f1:"+number+":1")
			noLine(t, "9 tell f3:0:"+number)
		}
		noLine(t, "9 tell f1:0:"+number)
		noLine(t, "9 tell f5:0:"+number)
	}
	for _, line := range []string{
		"-1 send r1", "4611686018427387905 send", "9223372036854775807 send", "9 join c-1", "9 join n-5", "9 send r-1", "9 begin g-1", "9 begin h-1", "9 begin h7", "9 join h7", "9 join h8", "9 join h10", "9 begin h66", "9 join h9223372036854775807", "9 send r-9223372036854775808",
		"9 tell v-0", "9 tell v+1", "9 tell v-01", "9 tell v- 1", "9 tell v−1",
	} {
		noLine(t, line)
	}
}

// TestParseFailures: a failure is told by three numbers, if it may be (24.1).
func TestParseFailures(t *testing.T) {
	for _, f := range []string{
		"", "1", "1:", "1:0", "1:0:", ":0:1", "1::1", "::", "1:0:1:", "1:0:1:0", "1:0:1:1", ":1:0:1", "1:0;1", "1:0.1", "1,0,1", "1: 0:1", "1:0 :1", "1 :0:1", "load:0:1", "1:0:0", "2:1:0", "1:7:-1", "3:0:1", "3:1:0", "4:1:0", "4:0:2", "5:0:0", "5:1:1", "6:0:1", "0:0:0", "0:1:1", "-1:0:1", "9:0:0", "3", "3:0", "4:", "3:0:00", "3:00:0", "03:0:0", "3:-0:0", "3:0:-0", "1:+7:1", "1:-07:1",
	} {
		noLine(t, "9 tell f"+f)
		noLine(t, "9 tell c1 f"+f+" k0:a")
	}
	for _, row := range outcomes {
		if strings.Contains(row.parts, "f") {
			noLine(t, "9 tell v1"+row.parts)
			noLine(t, "9 send"+row.parts)
			noLine(t, "9 begin"+row.parts)
		}
	}
}

// TestParseBlanks: there is one blank ahead of each part, and none elsewhere, but in names (24.1).
func TestParseBlanks(t *testing.T) {
	for _, line := range []string{
		"", " ", "  ", "\t", "\r", "\x00", "5", "5 ", " send", " send r1", " 5 send r1", "5  send r1", "5 send  r1", "5 send r1 ", "5 send r1  ", "5 send ", "5 send  ", "5send r1", "5 sendr1", "5\tsend r1", "5 send\tr1", "5 send r1\t", "5 send r1\r", "5 send r1\x00", "5 send r 1", "5 send\u00a0r1",
		"5 begin r1  g1", "5 begin r1g1", "5 begin r1 g1 ", "5 begin r1 g1  k0:a", "5 drop  k0:a", "5 drop k 0:a", "5 drop", "5 drop k0 :a",
		"5 send r1\n", "\n5 send r1", "5 send\n", "5 send r1\n5 send r1", "5 drop k0:a\n", "5 drop k0:\n", "5 drop k0:a\r", "5\nsend",
	} {
		if line == "5 drop" {
			told(t, api.Event{At: 5, Kind: api.EventDrop}, line)
			continue
		}
		noLine(t, line)
	}
	told(t, api.Event{At: 5, Kind: api.EventDrop, Key: named("a ")}, "5 drop k0:a ")
	told(t, api.Event{At: 5, Kind: api.EventDrop, Key: named("  ")}, "5 drop k0:  ")
}

// TestParseWords: a word that is none's, or one that is nearly so (24.1).
func TestParseWords(t *testing.T) {
	for _, f := range forms {
		told(t, api.Event{At: 1, Kind: f.kind}, "1 "+f.word)
		for _, word := range []string{strings.ToUpper(f.word), strings.ToUpper(f.word[:1]) + f.word[1:], f.word[:len(f.word)-1], f.word[2:], f.word + "s", f.word + f.word, "x" + f.word, f.word + "\x00", f.word + ":", "k" + f.word} {
			noLine(t, "1 "+word)
			noLine(t, "1 "+word+" r1")
			noLine(t, "1 "+word+" k0:a")
		}
	}
	for _, line := range []string{"1 x", "1 0", "1 1", "1 none", "1 event", "1 k0:a", "1 kind", "1 k", "1 r1", "1 \x00", "1 \xff", "1  "} {
		noLine(t, line)
	}
}

// TestParseLetters: a part that the kind does not name, and letters that stand for nothing (24.1).
func TestParseLetters(t *testing.T) {
	for _, f := range forms {
		for _, row := range []struct {
			named bool
			part  string
		}{
			{f.client, "c1"}, {f.caller, "n1"}, {f.run, "r1"}, {f.generation, "g1"}, {f.how, "h1"}, {f.hasOutcomes, "v1"}, {f.hasOutcomes, "v-1"}, {f.hasOutcomes, "f1:0:1"}, {f.hasOutcomes, "f4:0:0"}, {f.key, "k0:a"}, {f.key, "k1:"},
			{false, "a1"}, {false, "1"}, {false, "C1"}, {false, "R1"}, {false, "K0:a"}, {false, "F1:0:1"}, {false, "V1"}, {false, "N1"}, {false, "G1"}, {false, "H1"}, {false, "t1"}, {false, "x"}, {false, "\x001"}, {false, "\xff1"}, {false, ":1"}, {false, "-1"}, {false, "c"}, {false, "n"}, {false, "r"}, {false, "g"}, {false, "h"}, {false, "v"}, {false, "f"}, {false, "k"}, {false, "cc1"}, {false, "c1:0:1"}, {false, "é1"},
		} {
			line := "3 " + f.word + " " + row.part
			if row.named {
				told(t, eventOf(t, line), line)
				continue
			}
			noLine(t, line)
			noLine(t, line+" k0:b")
		}
	}
}

// TestParseKeys: a key is told as key.Text tells it, but for what is masked, and may be (24.1).
func TestParseKeys(t *testing.T) {
	for _, text := range []string{
		"", ":", ":a", "a", "a:b", "0", "7", "00:a", "07:a", "+7:a", "-1:a", "-0:a", "65536:a", "65537:", "100000:a", "4294967296:a", "18446744073709551616:a", " 7:a", "7 :a", "0x7:a", "7;a", "7.0:a", "٣:a", "7\x00:a", "%37:a", "0%3aa",
		"0:" + strings.Repeat("n", 65), "65535:" + strings.Repeat(" ", 65), "0:" + strings.Repeat("%0a", 65), "0:" + strings.Repeat("n", 1000), "0:" + strings.Repeat("%25", 100000),
		"0:", // the zero key is not told
	} {
		noLine(t, "1 drop k"+text)
		noLine(t, "1 begin r1 k"+text)
	}
}

// TestParseMasks: only the three bytes are masked, in one way each (24.1).
func TestParseMasks(t *testing.T) {
	for _, name := range []string{
		"%", "%0", "%2", "a%", "a%0", "%0A", "%0D", "%0b", "%0c", "%a", "%d", "%a0", "%00", "%09", "%20", "%41", "%61", "%7f", "%ff", "%24", "%26", "%%", "%%25", "%25%", "%0a%", "%0%0a", "%2%25", "%0a%0A", "% 0a", "%0 a", "%x0a", "%u000a", "%10", "%13", "%37", "%2525%", "\n", "a\nb", "\r", "%0a\r", "%0a\n",
	} {
		noLine(t, "1 drop k0:"+name)
		noLine(t, "1 drop k0:a"+name+"b")
		noLine(t, "1 drop k65535:"+name)
	}
	for name, want := range map[string]string{"%0a": "\n", "%0d": "\r", "%25": "%", "%250a": "%0a", "%2525": "%25", "%250A": "%0A", "%25%0a": "%\n", "%0a0a": "\n0a", "%2541": "%41", "0a": "0a", "%0d%0a%25": "\r\n%"} {
		told(t, api.Event{At: 1, Kind: api.EventDrop, Key: named(want)}, "1 drop k0:"+name)
		told(t, api.Event{At: 1, Kind: api.EventDrop, Key: named("a" + want + "b")}, "1 drop k0:a"+name+"b")
	}
}

// TestParseLong: a long text is no line, and that is told at once (24.1).
func TestParseLong(t *testing.T) {
	const many = 1 << 20
	for _, line := range []string{
		strings.Repeat("x", many), strings.Repeat(" ", many), strings.Repeat("1", many), "1 " + strings.Repeat("k", many), "1 join" + strings.Repeat(" c1", many), "1 join" + strings.Repeat(" ", many), "1 join k0:" + strings.Repeat("%0a", many), "1 join f" + strings.Repeat("1:", many), "1 join" + strings.Repeat(" k0:a", many), strings.Repeat("0 send ", many),
	} {
		if e, err := trace.Parse(line); e != (api.Event{}) || err != api.ErrLine {
			t.Fatalf("Parse(%q ..): %+v, %d", line[:20], e, err)
		}
	}
}
