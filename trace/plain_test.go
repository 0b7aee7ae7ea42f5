package trace_test

import (
	"fmt"
	"math"
	"math/big"
	"math/rand"
	"regexp"
	"strings"

	"convoy/api"
)

// form is a row of the chapter's table, written once more by hand.
type form struct {
	kind                                                   int
	word                                                   string
	client, caller, run, generation, how, key, hasOutcomes bool
}

var forms = []form{
	{kind: 1, word: "join", client: true, caller: true, key: true, how: true, run: true, hasOutcomes: true},
	{kind: 2, word: "begin", run: true, key: true, generation: true, how: true},
	{kind: 3, word: "send", run: true},
	{kind: 4, word: "tell", client: true, caller: true, run: true, key: true, hasOutcomes: true},
	{kind: 5, word: "end", run: true, key: true, generation: true, hasOutcomes: true},
	{kind: 6, word: "cancel", run: true, key: true, generation: true},
	{kind: 7, word: "abandon", run: true, key: true, generation: true},
	{kind: 8, word: "forget", client: true, key: true, generation: true},
	{kind: 9, word: "keep", run: true, key: true, hasOutcomes: true},
	{kind: 10, word: "drop", key: true},
	{kind: 11, word: "leave", client: true, caller: true, run: true, key: true, hasOutcomes: true},
}

// named is the key of a name, in the space 0.
func named(name string) api.Key { return api.Key{Name: name} }

// keys is keys that may be, and are not zero, with their texts as a line has them.
var keys = []struct {
	key  api.Key
	text string
}{
	{named("a"), "0:a"}, {named("x y"), "0:x y"}, {named(" "), "0: "}, {named(" a "), "0: a "}, {named("a  b"), "0:a  b"}, {named("\t"), "0:\t"}, {named(":"), "0::"}, {named("0:a"), "0:0:a"}, {named("0"), "0:0"},
	{named("\n"), "0:%0a"}, {named("\r"), "0:%0d"}, {named("%"), "0:%25"}, {named("\r\n"), "0:%0d%0a"}, {named("a\nb\rc%d"), "0:a%0ab%0dc%25d"}, {named("%0a"), "0:%250a"}, {named("%25"), "0:%2525"}, {named("%%"), "0:%25%25"}, {named("%250a"), "0:%25250a"}, {named("%2"), "0:%252"}, {named("%\n"), "0:%25%0a"}, {named("0a"), "0:0a"}, {named("\n "), "0:%0a "},
	{named(" k7:a"), "0: k7:a"}, {named("a r1"), "0:a r1"}, {named("a k0:b"), "0:a k0:b"}, {named("k"), "0:k"}, {named("5 send r1"), "0:5 send r1"},
	{named("\x00"), "0:\x00"}, {named("\xff\xfe\x80"), "0:\xff\xfe\x80"}, {named("\x0b\x0c\x09\x0e"), "0:\x0b\x0c\x09\x0e"}, {named("\u00e9\u20ac"), "0:\u00e9\u20ac"}, {named("\u0085\u2028\u00a0"), "0:\u0085\u2028\u00a0"}, {named("$&"), "0:$&"},
	{named(strings.Repeat("n", 63)), "0:" + strings.Repeat("n", 63)}, {named(strings.Repeat("n", 64)), "0:" + strings.Repeat("n", 64)}, {named(strings.Repeat("\n", 64)), "0:" + strings.Repeat("%0a", 64)}, {named(strings.Repeat("%", 64)), "0:" + strings.Repeat("%25", 64)},
	{api.Key{Space: 1}, "1:"}, {api.Key{Space: 7, Name: "a"}, "7:a"}, {api.Key{Space: 10, Name: "a"}, "10:a"}, {api.Key{Space: 65535}, "65535:"}, {api.Key{Space: 65535, Name: strings.Repeat("\r", 64)}, "65535:" + strings.Repeat("%0d", 64)},
}

// wrongKeys is keys that may not be.
var wrongKeys = []api.Key{
	named(strings.Repeat("n", 65)), named(strings.Repeat("\n", 65)), named(strings.Repeat("%", 256)), named(strings.Repeat("n", 320)), {Space: 65535, Name: strings.Repeat("\x00", 65)}, {Space: 1, Name: strings.Repeat("x", 100000)},
}

// outcomes is outcomes that may be, and are not zero, with their parts of a line.
var outcomes = []struct {
	outcome api.Outcome
	parts   string
}{
	{api.Outcome{Value: 1}, " v1"}, {api.Outcome{Value: -1}, " v-1"}, {api.Outcome{Value: 10}, " v10"}, {api.Outcome{Value: math.MaxInt64}, " v9223372036854775807"}, {api.Outcome{Value: math.MinInt64}, " v-9223372036854775808"},
	{failed(1, 0, 1), " f1:0:1"}, {failed(1, 7, 3), " f1:7:3"}, {failed(1, -7, 3), " f1:-7:3"}, {failed(1, math.MaxInt, math.MaxInt), " f1:9223372036854775807:9223372036854775807"}, {failed(1, math.MinInt, 10), " f1:-9223372036854775808:10"},
	{failed(2, 1, 3), " f2:1:3"}, {failed(2, 0, 20), " f2:0:20"}, {failed(2, -1, 1), " f2:-1:1"},
	{failed(3, 0, 0), " f3:0:0"}, {failed(4, 0, 0), " f4:0:0"}, {failed(5, 0, 1), " f5:0:1"}, {failed(5, 0, math.MaxInt), " f5:0:9223372036854775807"},
}

// wrongOutcomes is outcomes that may not be.
var wrongOutcomes = []api.Outcome{
	failed(1, 7, 0), failed(1, 0, 0), failed(1, 7, -1), failed(2, 1, 0), failed(2, 0, math.MinInt), failed(3, 1, 0), failed(3, 0, 1), failed(3, -1, 0), failed(4, 1, 0), failed(4, 0, 1), failed(4, 0, -1), failed(5, 0, 0), failed(5, 1, 1), failed(5, -1, 1), failed(5, 0, -1), failed(6, 0, 0), failed(6, 0, 1), failed(-1, 0, 0), failed(-1, 0, 1), failed(0, 1, 0), failed(0, 0, 1), failed(math.MaxInt, 0, 1), failed(math.MinInt, 0, 1),
	{Value: 1, Fail: api.Fail{Kind: 3}}, {Value: -1, Fail: api.Fail{Kind: 4}}, {Value: 7, Fail: api.Fail{Kind: 1, Run: 1}}, {Value: 7, Fail: api.Fail{Kind: 2, Run: 1}}, {Value: 7, Fail: api.Fail{Kind: 5, Run: 1}}, {Value: 1, Fail: api.Fail{Kind: 9}},
}

func failed(kind, code, run int) api.Outcome {
	return api.Outcome{Fail: api.Fail{Kind: kind, Code: code, Run: run}}
}

// outcomeByHand is the chapter's words (3) of which outcomes may be.
func outcomeByHand(o api.Outcome) bool {
	f := o.Fail
	switch {
	case f == api.Fail{}:
		return true
	case o.Value != 0:
		return false
	case f.Kind == 1 || f.Kind == 2:
		return f.Run >= 1
	case f.Kind == 3 || f.Kind == 4:
		return f.Code == 0 && f.Run == 0
	}
	return f.Kind == 5 && f.Code == 0 && f.Run >= 1
}

// mayBeByHand is the table of the chapter, and the words above it.
func mayBeByHand(e api.Event) bool {
	if e.At < 0 || e.At > 1<<62 || e.Kind < 1 || e.Kind > 11 {
		return false
	}
	f := forms[e.Kind-1]
	if !f.client && e.Client != 0 || !f.caller && e.Caller != 0 || !f.run && e.Run != 0 || !f.generation && e.Generation != 0 || !f.how && e.How != 0 {
		return false
	}
	if !f.key && e.Key != (api.Key{}) || !f.hasOutcomes && e.Outcome != (api.Outcome{}) {
		return false
	}
	if e.Client < 0 || e.Caller < 0 || e.Run < 0 || e.Generation < 0 || e.How < 0 || e.How > 6 {
		return false
	}
	return len(e.Key.Name) <= 64 && outcomeByHand(e.Outcome)
}

// lineByHand is the line of an event that may be.
func lineByHand(e api.Event) string {
	s := fmt.Sprintf("%d %s", e.At, forms[e.Kind-1].word)
	for _, part := range []struct {
		letter string
		n      int64
	}{{"c", int64(e.Client)}, {"n", int64(e.Caller)}, {"r", int64(e.Run)}, {"g", int64(e.Generation)}, {"h", int64(e.How)}, {"v", e.Outcome.Value}} {
		if part.n != 0 {
			s += fmt.Sprintf(" %s%d", part.letter, part.n)
		}
	}
	if f := e.Outcome.Fail; f.Kind != 0 {
		s += fmt.Sprintf(" f%d:%d:%d", f.Kind, f.Code, f.Run)
	}
	if e.Key.Space == 0 && e.Key.Name == "" {
		return s
	}
	s += fmt.Sprintf(" k%d:", e.Key.Space)
	for _, b := range []byte(e.Key.Name) {
		switch b {
		case 10, 13, 37:
			s += fmt.Sprintf("%%%02x", b)
		default:
			s += string([]byte{b})
		}
	}
	return s
}

const (
	above0 = `([1-9][0-9]*)`
	any0   = `(0|[1-9][0-9]*)`
	below0 = `(-?[1-9][0-9]*)`
	anyOne = `(0|-?[1-9][0-9]*)`
)

// aHead is a line without its key.
var aHead = regexp.MustCompile(`^` + any0 + ` ([a-z]+)(?: c` + above0 + `)?(?: n` + above0 + `)?(?: r` + above0 + `)?(?: g` + above0 + `)?(?: h` + above0 + `)?(?: v` + below0 + `)?(?: f` + above0 + `:` + anyOne + `:` + any0 + `)?$`)

// aKey is a key's text.
var aKey = regexp.MustCompile(`^` + any0 + `:([^\n\r]*)$`)

// aName is the beginning of a masked name: a byte that is told as it is, or one of those that are not.
var aName = regexp.MustCompile(`^(%0a|%0d|%25|[^%])`)

// numberByHand is the number of some digits, or 0 of none; false, if it is no number of 64 bits.
func numberByHand(digits string) (int64, bool) {
	if digits == "" {
		return 0, true
	}
	n, ok := new(big.Int).SetString(digits, 10)
	if !ok || !n.IsInt64() {
		return 0, false
	}
	return n.Int64(), true
}

// keyByHand is the key of a text as a line has it.
func keyByHand(text string) (api.Key, bool) {
	parts := aKey.FindStringSubmatch(text)
	if parts == nil {
		return api.Key{}, false
	}
	space, ok := numberByHand(parts[1])
	if !ok || space > 65535 {
		return api.Key{}, false
	}
	name := ""
	for rest := parts[2]; rest != ""; {
		piece := rest[:1]
		if rest[0] == '%' {
			if piece = aName.FindString(rest); piece == "" {
				return api.Key{}, false
			}
			name += string([]byte{map[string]byte{"%0a": 10, "%0d": 13, "%25": 37}[piece]})
		} else {
			name += piece
		}
		rest = rest[len(piece):]
	}
	return api.Key{Space: uint16(space), Name: name}, name != "" || space != 0
}

// parsedByHand is the event of a line, by a grammar.
func parsedByHand(s string) (api.Event, bool) {
	head, text, hasKey := s, "", false
	// The first blank with a k behind it that is no word's beginning.
	if from := strings.Index(s, " "); from >= 0 {
		if at := strings.Index(s[from+1:], " k"); at >= 0 {
			head, text, hasKey = s[:from+1+at], s[from+1+at+2:], true
		}
	}
	parts := aHead.FindStringSubmatch(head)
	if parts == nil {
		return api.Event{}, false
	}
	var e api.Event
	for _, f := range forms {
		if f.word == parts[2] {
			e.Kind = f.kind
		}
	}
	var n [12]int64
	for i, digits := range parts {
		if i == 0 || i == 2 {
			continue
		}
		var ok bool
		if n[i], ok = numberByHand(digits); !ok {
			return api.Event{}, false
		}
	}
	e.At, e.Client, e.Caller, e.Run, e.Generation, e.How = n[1], int(n[3]), int(n[4]), int(n[5]), int(n[6]), int(n[7])
	e.Outcome = api.Outcome{Value: n[8], Fail: api.Fail{Kind: int(n[9]), Code: int(n[10]), Run: int(n[11])}}
	if hasKey {
		var ok bool
		if e.Key, ok = keyByHand(text); !ok {
			return api.Event{}, false
		}
	}
	if !mayBeByHand(e) {
		return api.Event{}, false
	}
	return e, true
}

// filled is an event of a kind with all that this names.
func filled(f form) api.Event {
	e := api.Event{At: 9, Kind: f.kind}
	if f.client {
		e.Client = 2
	}
	if f.caller {
		e.Caller = 4
	}
	if f.run {
		e.Run = 3
	}
	if f.generation {
		e.Generation = 5
	}
	if f.how {
		e.How = 6
	}
	if f.key {
		e.Key = api.Key{Space: 7, Name: "a b"}
	}
	if f.hasOutcomes {
		e.Outcome = failed(2, 1, 3)
	}
	return e
}

// someNumber is a number from 0 on, by lot, small ones and great ones.
func someNumber(lot *rand.Rand) int {
	switch lot.Intn(8) {
	case 0:
		return 0
	case 1:
		return math.MaxInt - lot.Intn(3)
	case 2:
		return int(lot.Uint64() >> (1 + lot.Intn(63)))
	}
	return lot.Intn(12)
}

// someKey is a key by lot, at times the zero one.
func someKey(lot *rand.Rand) api.Key {
	if lot.Intn(3) == 0 {
		return keys[lot.Intn(len(keys))].key
	}
	const letters = "ab k0:%25d\n\r\xff"
	name := make([]byte, lot.Intn(6))
	for i := range name {
		name[i] = letters[lot.Intn(len(letters))]
	}
	return api.Key{Space: uint16(lot.Intn(1<<lot.Intn(17))) * uint16(lot.Intn(2)), Name: string(name)}
}

// someOutcome is an outcome by lot, at times the zero one.
func someOutcome(lot *rand.Rand) api.Outcome {
	switch lot.Intn(4) {
	case 0:
		return api.Outcome{}
	case 1:
		return api.Outcome{Value: int64(lot.Uint64()) >> lot.Intn(64)}
	case 2:
		return failed(1+lot.Intn(2), lot.Intn(20)-10, 1+lot.Intn(20))
	}
	return outcomes[lot.Intn(len(outcomes))].outcome
}

// someEvent is an event by lot, which may be.
func someEvent(lot *rand.Rand) api.Event {
	f := forms[lot.Intn(len(forms))]
	e := api.Event{At: min(int64(someNumber(lot)), 1<<62), Kind: f.kind}
	if f.client {
		e.Client = someNumber(lot)
	}
	if f.caller {
		e.Caller = someNumber(lot)
	}
	if f.run {
		e.Run = someNumber(lot)
	}
	if f.generation {
		e.Generation = someNumber(lot)
	}
	if f.how {
		e.How = lot.Intn(7)
	}
	if f.key {
		e.Key = someKey(lot)
	}
	if f.hasOutcomes {
		e.Outcome = someOutcome(lot)
	}
	return e
}
