package fail

import (
	"errors"
	"strings"

	"convoy/api"
)

// carried is an error that was made here: by Of, if it wraps nothing; else by Wrap.
type carried struct {
	fail  api.Fail
	note  string
	inner error
}

func (c *carried) Error() string { return Say(c) }

func (c *carried) Unwrap() error { return c.inner }

// Of is an error that carries a failure.
func Of(f api.Fail) error {
	if isNone(f) {
		return nil
	}
	return &carried{fail: f}
}

// Wrap is an error that wraps another one.
func Wrap(err error, note string) error {
	if err == nil {
		return nil
	}
	return &carried{note: note, inner: err}
}

// Find is the failure that an error carries.
func Find(err error) (api.Fail, bool) {
	_, f := unwrap(err)
	return f, !isNone(f)
}

// Is tells whether two errors carry the same failure.
func Is(err, other error) bool {
	if err == nil && other == nil {
		return true
	}
	a, has := Find(err)
	b, hasToo := Find(other)
	return has && hasToo && Same(a, b)
}

// Deep is how many times an error was wrapped.
func Deep(err error) int {
	notes, _ := unwrap(err)
	return len(notes)
}

// Say is what an error says.
func Say(err error) string {
	if err == nil {
		return ""
	}
	notes, f := unwrap(err)
	var said strings.Builder
	for _, note := range notes {
		said.WriteString(note)
		said.WriteString(": ")
	}
	said.WriteString(Text(f))
	return said.String()
}

// unwrap is the notes of all that Wrap made, from the outermost on, and the failure below them; none, if what is below was not made here.
func unwrap(err error) ([]string, api.Fail) {
	var notes []string
	c := madeHere(err)
	for c != nil && c.inner != nil {
		notes = append(notes, c.note)
		c = madeHere(c.inner)
	}
	if c == nil {
		return notes, api.Fail{}
	}
	return notes, c.fail
}

// madeHere is what stands behind an error that was made here; nil of any other.
func madeHere(err error) (c *carried) {
	// errors.As calls the methods of an error that was not made here, and these may panic.
	defer func() {
		if recover() != nil {
			c = nil
		}
	}()
	// What errors.As finds deeper, others have wrapped: only what Wrap wraps is carried.
	if !errors.As(err, &c) || err != error(c) {
		return nil
	}
	return c
}
