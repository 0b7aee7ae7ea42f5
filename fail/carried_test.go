package fail_test

import (
	"errors"
	"fmt"
	"io"
	"math"
	"strconv"
	"strings"
	"sync"
	"testing"

	"convoy/api"
	"convoy/fail"
)

// other wraps an error, and is none that was made here.
type other struct{ err error }

func (o other) Error() string { return "other: " + o.err.Error() }
func (o other) Unwrap() error { return o.err }

// many wraps several errors, and can't be compared.
type many []error

func (m many) Error() string   { return "many" }
func (m many) Unwrap() []error { return m }

// rude panics whatever it is asked.
type rude struct{}

func (rude) Error() string { panic("rude") }
func (rude) Unwrap() error { panic("rude") }
func (rude) As(any) bool   { panic("rude") }
func (rude) Is(error) bool { panic("rude") }

// lying says that it is what is asked for.
type lying struct{}

func (lying) Error() string { return "lying" }
func (lying) As(any) bool   { return true }
func (lying) Is(error) bool { return true }

// shell holds an error inside, and shows its text alone.
type shell struct{ error }

// outside is errors that were not made here, and that wrap none that was.
func outside() []error {
	var nothing *other
	return []error{
		errors.New("x"),
		errors.New("load 7 3"),
		errors.New(""),
		io.EOF,
		fmt.Errorf("a: %w", io.EOF),
		other{io.EOF},
		&other{io.EOF},
		nothing,
		many{},
		many{io.EOF, errors.New("x")},
		errors.Join(io.EOF, errors.New("x")),
		rude{},
		&rude{},
		lying{},
		shell{io.EOF},
		shell{},
	}
}

// around is errors of others that wrap one, in each way there is.
func around(err error) []error {
	return []error{
		fmt.Errorf("a: %w", err),
		fmt.Errorf("a: %w: %w", io.EOF, err),
		other{err},
		&other{err},
		other{other{err}},
		many{err},
		many{io.EOF, err},
		errors.Join(err),
		errors.Join(io.EOF, err),
		shell{err},
	}
}

var load = failure(1, 7, 3)

func TestOf(t *testing.T) {
	if err := fail.Of(api.Fail{}); err != nil {
		t.Errorf("of none: %v", err)
	}
	for _, f := range all() {
		if f == (api.Fail{}) {
			continue
		}
		err := fail.Of(f)
		if err == nil {
			t.Fatalf("Of(%#v): nil", f)
		}
		if got, ok := fail.Find(err); got != f || !ok {
			t.Errorf("Find(Of(%#v)): %#v, %t", f, got, ok)
		}
		if deep := fail.Deep(err); deep != 0 {
			t.Errorf("Deep(Of(%#v)): %d", f, deep)
		}
		if said := fail.Say(err); said != fail.Text(f) {
			t.Errorf("Say(Of(%#v)): %q", f, said)
		}
		if errors.Unwrap(err) != nil {
			t.Errorf("Of(%#v) wraps %v", f, errors.Unwrap(err))
		}
	}
}

func TestWrap(t *testing.T) {
	for _, note := range []string{"", "x", "a: b"} {
		if err := fail.Wrap(nil, note); err != nil {
			t.Errorf("Wrap(nil, %q): %v", note, err)
		}
		if err := fail.Wrap(fail.Of(api.Fail{}), note); err != nil {
			t.Errorf("Wrap of none: %v", err)
		}
		of := fail.Of(load)
		once := fail.Wrap(of, note)
		if once == nil || errors.Unwrap(once) != of || !errors.Is(once, of) {
			t.Errorf("Wrap(Of, %q): %v", note, once)
		}
		twice := fail.Wrap(once, note)
		if twice == nil || errors.Unwrap(twice) != once || !errors.Is(twice, of) {
			t.Errorf("Wrap(Wrap(Of, %q)): %v", note, twice)
		}
	}
	for _, x := range []error{errors.New("x"), other{io.EOF}, io.EOF} {
		if err := fail.Wrap(x, "n"); err == nil || errors.Unwrap(err) != x {
			t.Errorf("Wrap(%v): %v", x, err)
		}
	}
}

func TestFind(t *testing.T) {
	if f, ok := fail.Find(nil); f != (api.Fail{}) || ok {
		t.Errorf("of nil: %#v, %t", f, ok)
	}
	for _, f := range []api.Fail{load, failure(2, 1, 2), failure(3, 0, 0), failure(4, 0, 0), failure(5, 0, 1), failure(9, 1, 2), failure(0, 1, 0), failure(0, 0, 1), failure(-1, math.MinInt, math.MaxInt)} {
		err := fail.Of(f)
		for range 5 {
			if got, ok := fail.Find(err); got != f || !ok {
				t.Errorf("Find(%v): %#v, %t", err, got, ok)
			}
			err = fail.Wrap(err, "note")
		}
	}
}

// TestOutside: errors that were not made here carry nothing, by themselves and wrapped by Wrap.
func TestOutside(t *testing.T) {
	for i, x := range outside() {
		if f, ok := fail.Find(x); f != (api.Fail{}) || ok {
			t.Errorf("%d: Find: %#v, %t", i, f, ok)
		}
		if deep := fail.Deep(x); deep != 0 {
			t.Errorf("%d: Deep: %d", i, deep)
		}
		if said := fail.Say(x); said != "none" {
			t.Errorf("%d: Say: %q", i, said)
		}
		err := fail.Wrap(fail.Wrap(x, "a"), "b")
		if f, ok := fail.Find(err); f != (api.Fail{}) || ok {
			t.Errorf("%d: Find of Wrap: %#v, %t", i, f, ok)
		}
		if deep := fail.Deep(err); deep != 2 {
			t.Errorf("%d: Deep of Wrap: %d", i, deep)
		}
		if said := fail.Say(err); said != "b: a: none" || err.Error() != said {
			t.Errorf("%d: Say of Wrap: %q", i, said)
		}
		for _, y := range []error{nil, x, err, fail.Of(load), errors.New("x")} {
			if fail.Is(x, y) || fail.Is(y, x) || fail.Is(err, y) || fail.Is(y, err) {
				t.Errorf("%d: Is: true", i)
			}
		}
	}
}

// TestWrappedByOthers: what is wrapped otherwise than by Wrap is not carried.
func TestWrappedByOthers(t *testing.T) {
	of := fail.Of(load)
	for _, inside := range []error{of, fail.Wrap(of, "in")} {
		for i, x := range around(inside) {
			if f, ok := fail.Find(x); f != (api.Fail{}) || ok {
				t.Errorf("%d: Find: %#v, %t", i, f, ok)
			}
			if deep := fail.Deep(x); deep != 0 {
				t.Errorf("%d: Deep: %d", i, deep)
			}
			if said := fail.Say(x); said != "none" {
				t.Errorf("%d: Say: %q", i, said)
			}
			if fail.Is(x, of) || fail.Is(of, x) || fail.Is(x, x) {
				t.Errorf("%d: Is: true", i)
			}
			err := fail.Wrap(x, "out")
			if f, ok := fail.Find(err); f != (api.Fail{}) || ok {
				t.Errorf("%d: Find of Wrap: %#v, %t", i, f, ok)
			}
			if deep := fail.Deep(err); deep != 1 {
				t.Errorf("%d: Deep of Wrap: %d", i, deep)
			}
			if said := fail.Say(err); said != "out: none" {
				t.Errorf("%d: Say of Wrap: %q", i, said)
			}
			if fail.Is(err, of) || fail.Is(of, err) || fail.Is(err, err) {
				t.Errorf("%d: Is of Wrap: true", i)
			}
		}
	}
}

func TestIs(t *testing.T) {
	if !fail.Is(nil, nil) {
		t.Error("of two nils: false")
	}
	if !fail.Is(fail.Of(api.Fail{}), fail.Wrap(nil, "x")) {
		t.Error("of two nils that were made here: false")
	}
	l := []api.Fail{load, failure(1, 7, 4), failure(1, 8, 3), failure(2, 7, 3), failure(3, 0, 0), failure(4, 0, 0), failure(5, 0, 3), failure(9, 7, 3), failure(0, 7, 3), failure(0, 0, 3)}
	for i, f := range l {
		for j, g := range l {
			for _, a := range []error{fail.Of(f), fail.Wrap(fail.Of(f), "a"), fail.Wrap(fail.Wrap(fail.Of(f), ""), "b")} {
				for _, b := range []error{fail.Of(g), fail.Wrap(fail.Of(g), "c"), fail.Wrap(fail.Wrap(fail.Of(g), "a"), "a")} {
					if is := fail.Is(a, b); is != (i == j) {
						t.Errorf("Is(%v, %v): %t", a, b, is)
					}
				}
			}
		}
		if err := fail.Of(f); fail.Is(err, nil) || fail.Is(nil, err) || fail.Is(fail.Wrap(err, "x"), nil) || !fail.Is(err, err) {
			t.Errorf("Is of %v and nil", err)
		}
	}
}

func TestDeep(t *testing.T) {
	if deep := fail.Deep(nil); deep != 0 {
		t.Errorf("of nil: %d", deep)
	}
	err, x := fail.Of(load), errors.New("x")
	for i := range 100 {
		if deep := fail.Deep(err); deep != i {
			t.Errorf("%d, not %d", deep, i)
		}
		if deep := fail.Deep(x); deep != i {
			t.Errorf("of another's: %d, not %d", deep, i)
		}
		err, x = fail.Wrap(err, ""), fail.Wrap(x, "n")
	}
}

func TestSay(t *testing.T) {
	if said := fail.Say(nil); said != "" {
		t.Errorf("of nil: %q", said)
	}
	for _, c := range []struct {
		f     api.Fail
		notes []string // the innermost one first
		said  string
	}{
		{failure(2, 1, 2), []string{"x"}, "x: panic 1 2"},
		{load, nil, "load 7 3"},
		{load, []string{"a", "b"}, "b: a: load 7 3"},
		{load, []string{""}, ": load 7 3"},
		{load, []string{"", "", ""}, ": : : load 7 3"},
		{load, []string{"", "x"}, "x: : load 7 3"},
		{load, []string{"a: b", ":"}, ":: a: b: load 7 3"},
		{load, []string{" ", "\x00\xff"}, "\x00\xff:  : load 7 3"},
		{load, []string{"same", "same"}, "same: same: load 7 3"},
		{load, []string{"panic 1 2"}, "panic 1 2: load 7 3"},
		{failure(9, -1, 0), []string{"odd"}, "odd: kind9 -1 0"},
		{failure(0, 1, 0), []string{"odd"}, "odd: kind0 1 0"},
	} {
		err := fail.Of(c.f)
		for _, note := range c.notes {
			err = fail.Wrap(err, note)
		}
		if said := fail.Say(err); said != c.said || err.Error() != c.said {
			t.Errorf("Say: %q, Error: %q, not %q", said, err.Error(), c.said)
		}
	}
}

// TestWrappedManyTimes: at the depth up to which promises hold, and in no more time than the notes take.
func TestWrappedManyTimes(t *testing.T) {
	const depth = 1 << 16
	err, x := fail.Of(load), errors.New("x")
	var want strings.Builder
	for i := range depth {
		err, x = fail.Wrap(err, strconv.Itoa(i)), fail.Wrap(x, strconv.Itoa(i))
		want.WriteString(strconv.Itoa(depth-1-i) + ": ")
	}
	if f, ok := fail.Find(err); f != load || !ok {
		t.Errorf("Find: %#v, %t", f, ok)
	}
	if f, ok := fail.Find(x); f != (api.Fail{}) || ok {
		t.Errorf("Find of another's: %#v, %t", f, ok)
	}
	if !fail.Is(err, fail.Of(load)) || fail.Is(err, x) {
		t.Error("Is")
	}
	if fail.Deep(err) != depth || fail.Deep(x) != depth {
		t.Errorf("Deep: %d, %d", fail.Deep(err), fail.Deep(x))
	}
	if fail.Say(err) != want.String()+"load 7 3" || err.Error() != fail.Say(err) {
		t.Error("Say")
	}
	if fail.Say(x) != want.String()+"none" {
		t.Error("Say of another's")
	}
}

// TestWrapLeavesWhatItWraps: an error says the same, however often it was wrapped since (R4).
func TestWrapLeavesWhatItWraps(t *testing.T) {
	of := fail.Of(load)
	inner := fail.Wrap(of, "in")
	left, right := fail.Wrap(inner, "left"), fail.Wrap(inner, "right")
	for _, c := range []struct {
		err  error
		deep int
		said string
	}{
		{of, 0, "load 7 3"},
		{inner, 1, "in: load 7 3"},
		{left, 2, "left: in: load 7 3"},
		{right, 2, "right: in: load 7 3"},
	} {
		f, ok := fail.Find(c.err)
		if f != load || !ok || fail.Deep(c.err) != c.deep || fail.Say(c.err) != c.said {
			t.Errorf("%q: %#v, %t, %d, %q", c.said, f, ok, fail.Deep(c.err), fail.Say(c.err))
		}
	}
}

// TestAtOneTime: the calls read alone, so that one error may be asked by many at one time.
func TestAtOneTime(t *testing.T) {
	err := fail.Wrap(fail.Wrap(fail.Of(load), "a"), "b")
	var wait sync.WaitGroup
	for range 8 {
		wait.Go(func() {
			for range 100 {
				if f, ok := fail.Find(err); f != load || !ok || fail.Deep(err) != 2 || fail.Say(err) != "b: a: load 7 3" {
					t.Errorf("%#v, %t", f, ok)
				}
			}
		})
	}
	wait.Wait()
}
