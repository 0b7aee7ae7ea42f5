package trace

import (
	"strconv"
	"strings"

	"convoy/api"
	"convoy/key"
)

const (
	blank  = " " // ahead of each part of a line
	within = ":" // between the numbers of a failure
)

// Line tells an event as a line (24.1).
func Line(e api.Event) (string, api.Errno) {
	if err := Check(e); err != api.OK {
		return "", err
	}
	return lineOf(e), api.OK
}

// lineOf is the line of an event that may be.
func lineOf(e api.Event) string {
	var line strings.Builder
	line.WriteString(strconv.FormatInt(e.At, 10) + blank + kinds[e.Kind].word)
	for at, n := range numbersOf(&e) {
		writeNumber(&line, numberLetters[at], int64(*n))
	}
	writeNumber(&line, valueLetter, e.Outcome.Value)
	if f := e.Outcome.Fail; f != (api.Fail{}) {
		writePart(&line, failLetter, strconv.Itoa(f.Kind)+within+strconv.Itoa(f.Code)+within+strconv.Itoa(f.Run))
	}
	if e.Key != (api.Key{}) {
		// A key that may be has a text.
		text, _ := key.Text(e.Key)
		writePart(&line, keyLetter, masked(text))
	}
	return line.String()
}

func writeNumber(line *strings.Builder, letter byte, n int64) {
	if n != 0 {
		writePart(line, letter, strconv.FormatInt(n, 10))
	}
}

func writePart(line *strings.Builder, letter byte, told string) {
	line.WriteString(blank)
	line.WriteByte(letter)
	line.WriteString(told)
}

// masked is a key's text without the bytes that end lines.
func masked(text string) string {
	if !strings.ContainsAny(text, "\n\r%") {
		return text
	}
	return strings.NewReplacer("\n", "%0a", "\r", "%0d", "%", "%25").Replace(text)
}

// unmasked is the text that is masked so; what masked would not tell stays as it is.
func unmasked(text string) string {
	if !strings.Contains(text, "%") {
		return text
	}
	return strings.NewReplacer("%0a", "\n", "%0d", "\r", "%25", "%").Replace(text)
}

// Parse tells the event of a line (24.1).
func Parse(s string) (api.Event, api.Errno) {
	e := read(s)
	if Check(e) != api.OK || lineOf(e) != s {
		return api.Event{}, api.ErrLine
	}
	return e, api.OK
}

// read takes whatever it can read of a line: the line of that tells whether it was right.
func read(s string) api.Event {
	at, rest, _ := strings.Cut(s, blank)
	word, rest, more := strings.Cut(rest, blank)
	e := api.Event{At: number(at), Kind: kindOf(word)}
	for more {
		// A key's name may have blanks, so it goes on to the end.
		if rest != "" && rest[0] == keyLetter {
			e.Key, _, _ = key.Parse(unmasked(rest[1:]))
			return e
		}
		var part string
		part, rest, more = strings.Cut(rest, blank)
		take(&e, part)
	}
	return e
}

// take lays what a part tells into an event.
func take(e *api.Event, part string) {
	if part == "" {
		return
	}
	letter, told := part[0], part[1:]
	switch letter {
	case valueLetter:
		e.Outcome.Value = number(told)
	case failLetter:
		e.Outcome.Fail = failureOf(told)
	default:
		if at := strings.IndexByte(numberLetters, letter); at >= 0 {
			*numbersOf(e)[at] = int(number(told))
		}
	}
}

func failureOf(told string) api.Fail {
	kind, rest, _ := strings.Cut(told, within)
	code, run, _ := strings.Cut(rest, within)
	return api.Fail{Kind: int(number(kind)), Code: int(number(code)), Run: int(number(run))}
}

// number is the number of a text, or any other if it is none.
func number(text string) int64 {
	n, _ := strconv.ParseInt(text, 10, 64)
	return n
}

// kindOf is the kind that a word stands for, or 0, which is none.
func kindOf(word string) int {
	for kind := api.EventJoin; kind <= api.EventLeave; kind++ {
		if kinds[kind].word == word {
			return kind
		}
	}
	return 0
}
