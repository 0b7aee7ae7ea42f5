package fail_test

import (
	"math"
	"testing"

	"convoy/api"
	"convoy/fail"
)

// TestParseOfText: Parse of Text is the failure, if it may be (3.5).
func TestParseOfText(t *testing.T) {
	numbers := []int{math.MinInt, math.MinInt + 1, -100, -99, -10, -9, -1, 0, 1, 9, 10, 99, 100, 1 << 31, 1 << 32, math.MaxInt - 1, math.MaxInt}
	held := 0
	for kind := -1; kind <= 6; kind++ {
		for _, code := range numbers {
			for _, run := range numbers {
				f := failure(kind, code, run)
				if fail.Check(f) != api.OK {
					continue
				}
				held++
				if got, err := fail.Parse(fail.Text(f)); got != f || err != api.OK {
					t.Errorf("Parse(Text(%#v)): %#v, %d", f, got, err)
				}
			}
		}
	}
	if want := 1 + 2*len(numbers)*9 + 2 + 9; held != want {
		t.Errorf("%d failures may be, not %d", held, want)
	}
}

// TestFindOfWraps: Find of Wrap of Wrap of Of(f) is f, of any f but none (3.5).
func TestFindOfWraps(t *testing.T) {
	for _, f := range all() {
		got, ok := fail.Find(fail.Wrap(fail.Wrap(fail.Of(f), "a"), "b"))
		if got != f || ok != (f != api.Fail{}) {
			t.Errorf("%#v: %#v, %t", f, got, ok)
		}
	}
}

// TestIsDoesNotHangOnNotes: 3.5.
func TestIsDoesNotHangOnNotes(t *testing.T) {
	for _, f := range []api.Fail{load, failure(2, 0, 1), failure(3, 0, 0), failure(4, 0, 0), failure(5, 0, 1)} {
		for _, g := range []api.Fail{load, failure(1, 7, 4), failure(5, 0, 1)} {
			is := fail.Is(fail.Of(f), fail.Of(g))
			for _, note := range []string{"", "x", ": ", fail.Text(f), fail.Text(g)} {
				for _, other := range []string{"", "y", "x", fail.Text(g)} {
					if fail.Is(fail.Wrap(fail.Of(f), note), fail.Wrap(fail.Of(g), other)) != is {
						t.Errorf("%#v, %#v, with the notes %q and %q: not %t", f, g, note, other, is)
					}
				}
			}
		}
	}
}

// TestOfTwoRuns: failures of two runs are never the same (3.5).
func TestOfTwoRuns(t *testing.T) {
	for _, f := range all() {
		for _, run := range runs {
			g := failure(f.Kind, f.Code, run)
			if run == f.Run || g == (api.Fail{}) || f == (api.Fail{}) {
				continue
			}
			if fail.Same(f, g) || fail.Compare(f, g) == 0 || fail.Text(f) == fail.Text(g) || fail.Is(fail.Of(f), fail.Of(g)) {
				t.Errorf("%#v and %#v", f, g)
			}
		}
	}
}

// TestExamples: those of the chapter.
func TestExamples(t *testing.T) {
	if s := fail.Text(api.Fail{Kind: api.FailLoad, Code: 7, Run: 3}); s != "load 7 3" {
		t.Error(s)
	}
	if f, err := fail.Parse("busy 0 0"); f != (api.Fail{Kind: api.FailBusy}) || err != api.OK {
		t.Error(f, err)
	}
	if f, err := fail.Parse("busy 1 0"); f != (api.Fail{}) || err != api.ErrFail {
		t.Error(f, err)
	}
	if s := fail.Say(fail.Wrap(fail.Of(api.Fail{Kind: api.FailPanic, Code: 1, Run: 2}), "x")); s != "x: panic 1 2" {
		t.Error(s)
	}
	if s := fail.Text(api.Fail{Kind: 9, Code: 1, Run: 2}); s != "kind9 1 2" {
		t.Error(s)
	}
}
