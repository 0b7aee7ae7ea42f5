package trace

import (
	"strings"

	"convoy/api"
	"convoy/tick"
)

const end = "\n" // of each line of a text

// Text tells the lines of all events, in order (24.4).
func (t *Trace) Text() string {
	var text strings.Builder
	t.each(func(_ int, e api.Event) bool {
		text.WriteString(lineOf(e) + end)
		return true
	})
	return text.String()
}

// Read tells the trace of a text, or the number of the first line that is none, or may not be added (24.4).
func Read(s string) (*Trace, int, api.Errno) {
	t := New()
	for line := 1; s != ""; line++ {
		told, rest, ended := strings.Cut(s, end)
		if !ended {
			return nil, line, api.ErrLine
		}
		e, err := Parse(told)
		if err == api.OK {
			err = t.Add(e)
		}
		if err != api.OK {
			return nil, line, err
		}
		s = rest
	}
	return t, 0, api.OK
}

// Sum tells the hash of the text (24.4).
func (t *Trace) Sum() uint64 { return tick.Hash(t.Text(), 0) }
