package fail_test

import (
	"math"
	"slices"
	"testing"

	"convoy/api"
	"convoy/fail"
)

// The calls are those that the chapter lists.
var (
	_ func(api.Fail) api.Errno           = fail.Check
	_ func(api.Outcome) bool             = fail.Right
	_ func(a, b api.Fail) bool           = fail.Same
	_ func(api.Fail) string              = fail.Text
	_ func(string) (api.Fail, api.Errno) = fail.Parse
	_ func(a, b api.Fail) int            = fail.Compare
	_ func(api.Fail) error               = fail.Of
	_ func(error, string) error          = fail.Wrap
	_ func(error) (api.Fail, bool)       = fail.Find
	_ func(err, other error) bool        = fail.Is
	_ func(error) int                    = fail.Deep
	_ func(error) string                 = fail.Say
	_ func(...api.Fail) [6]int           = fail.Kinds
)

func failure(kind, code, run int) api.Fail {
	return api.Fail{Kind: kind, Code: code, Run: run}
}

var (
	kinds = []int{math.MinInt, -6, -2, -1, 0, 1, 2, 3, 4, 5, 6, 7, 9, 10, 256, 257, 1 << 32, 1<<32 + 1, math.MaxInt}
	codes = []int{math.MinInt, math.MinInt + 1, -10, -1, 0, 1, 7, 10, 1 << 32, math.MaxInt - 1, math.MaxInt}
	runs  = []int{math.MinInt, math.MinInt + 1, -10, -1, 0, 1, 2, 10, 1 << 32, math.MaxInt - 1, math.MaxInt}
)

// all is failures of each kind, with each code and run: those that may be, and others.
func all() []api.Fail {
	var l []api.Fail
	for _, kind := range kinds {
		for _, code := range codes {
			for _, run := range runs {
				l = append(l, failure(kind, code, run))
			}
		}
	}
	return l
}

// mayBe says the chapter's words once more, kind by kind.
func mayBe(f api.Fail) bool {
	zero := f.Kind == 0 && f.Code == 0 && f.Run == 0
	ofRun := (f.Kind == 1 || f.Kind == 2) && f.Run > 0
	ofCaller := (f.Kind == 3 || f.Kind == 4) && f.Code == 0 && f.Run == 0
	aborted := f.Kind == 5 && f.Code == 0 && f.Run > 0
	return zero || ofRun || ofCaller || aborted
}

// TestNumbersOfKinds: the numbers and words that the other tests write out.
func TestNumbersOfKinds(t *testing.T) {
	if api.FailNone != 0 || api.FailLoad != 1 || api.FailPanic != 2 || api.FailCancel != 3 || api.FailBusy != 4 || api.FailAbort != 5 || api.ErrFail != 30 {
		t.Error("package api is another one")
	}
}

func TestCheck(t *testing.T) {
	for _, c := range []struct {
		f   api.Fail
		err api.Errno
	}{
		{failure(0, 0, 0), api.OK},
		{failure(0, 1, 0), api.ErrFail}, // the kind alone does not make it none
		{failure(0, 0, 1), api.ErrFail},
		{failure(0, -1, -1), api.ErrFail},
		{failure(1, 7, 3), api.OK},
		{failure(1, 0, 1), api.OK},
		{failure(1, -7, 1), api.OK},
		{failure(1, math.MinInt, math.MaxInt), api.OK},
		{failure(1, 7, 0), api.ErrFail},
		{failure(1, 7, -1), api.ErrFail},
		{failure(2, math.MaxInt, 1), api.OK},
		{failure(2, 0, 0), api.ErrFail},
		{failure(2, 0, math.MinInt), api.ErrFail},
		{failure(3, 0, 0), api.OK},
		{failure(3, 1, 0), api.ErrFail},
		{failure(3, -1, 0), api.ErrFail},
		{failure(3, 0, 1), api.ErrFail},
		{failure(3, 0, -1), api.ErrFail},
		{failure(4, 0, 0), api.OK},
		{failure(4, 1, 0), api.ErrFail},
		{failure(4, 0, 1), api.ErrFail},
		{failure(5, 0, 1), api.OK},
		{failure(5, 0, math.MaxInt), api.OK},
		{failure(5, 0, 0), api.ErrFail},
		{failure(5, 0, -1), api.ErrFail},
		{failure(5, 1, 1), api.ErrFail},
		{failure(5, -1, 1), api.ErrFail},
		{failure(6, 0, 0), api.ErrFail},
		{failure(6, 0, 1), api.ErrFail},
		{failure(-1, 0, 0), api.ErrFail},
		{failure(-1, 0, 1), api.ErrFail},
		{failure(math.MaxInt, 0, 1), api.ErrFail},
		{failure(math.MinInt, 0, 1), api.ErrFail},
	} {
		if err := fail.Check(c.f); err != c.err {
			t.Errorf("Check(%#v): %d, not %d", c.f, err, c.err)
		}
	}
	for _, f := range all() {
		if err := fail.Check(f); (err == api.OK) != mayBe(f) || err != api.OK && err != api.ErrFail {
			t.Errorf("Check(%#v): %d", f, err)
		}
	}
}

func TestRight(t *testing.T) {
	for _, c := range []struct {
		value int64
		f     api.Fail
		right bool
	}{
		{0, failure(0, 0, 0), true},
		{7, failure(0, 0, 0), true},
		{-1, failure(0, 0, 0), true},
		{math.MinInt64, failure(0, 0, 0), true},
		{math.MaxInt64, failure(0, 0, 0), true},
		{0, failure(1, 7, 3), true},
		{1, failure(1, 7, 3), false}, // a value beside a failure
		{-1, failure(2, 7, 3), false},
		{0, failure(3, 0, 0), true},
		{1 << 32, failure(4, 0, 0), false},
		{math.MinInt64, failure(5, 0, 1), false},
		{0, failure(1, 7, 0), false}, // a failure that may not be
		{0, failure(0, 1, 0), false},
		{7, failure(0, 0, 1), false},
		{0, failure(6, 0, 0), false},
	} {
		if right := fail.Right(api.Outcome{Value: c.value, Fail: c.f}); right != c.right {
			t.Errorf("Right(%d, %#v): %t", c.value, c.f, right)
		}
	}
	for _, f := range all() {
		for _, value := range []int64{math.MinInt64, -1, 0, 1, 1 << 32, math.MaxInt64} {
			want := mayBe(f) && (f.Kind == 0 || value == 0)
			if right := fail.Right(api.Outcome{Value: value, Fail: f}); right != want {
				t.Errorf("Right(%d, %#v): %t", value, f, right)
			}
		}
	}
}

func TestSame(t *testing.T) {
	for _, a := range all() {
		if !fail.Same(a, a) {
			t.Errorf("%#v is not the same as itself", a)
		}
		for _, b := range []api.Fail{
			failure(a.Kind+1, a.Code, a.Run), failure(a.Kind, a.Code+1, a.Run), failure(a.Kind, a.Code, a.Run+1),
			failure(a.Kind-1, a.Code, a.Run), failure(a.Kind, a.Code-1, a.Run), failure(a.Kind, a.Code, a.Run-1),
			failure(a.Kind+1, a.Code-1, a.Run), failure(a.Kind, a.Code+1, a.Run-1), failure(a.Kind-1, a.Code, a.Run+1),
			failure(a.Kind+1<<32, a.Code, a.Run), failure(a.Kind, a.Code+1<<32, a.Run), failure(a.Kind, a.Code, a.Run+1<<32),
		} {
			if fail.Same(a, b) || fail.Same(b, a) {
				t.Errorf("%#v and %#v are the same", a, b)
			}
		}
	}
	// Kind, code and run that have changed places.
	if fail.Same(failure(1, 2, 3), failure(1, 3, 2)) || fail.Same(failure(1, 2, 3), failure(2, 1, 3)) {
		t.Error("the same, with numbers in other places")
	}
}

func TestCompare(t *testing.T) {
	// In order: by kind, then by run, then by code.
	l := []api.Fail{
		failure(math.MinInt, math.MaxInt, math.MaxInt),
		failure(-1, 0, 0),
		failure(0, 0, 0),
		failure(0, 1, 0),
		failure(1, math.MaxInt, math.MinInt),
		failure(1, 9, 1),
		failure(1, -5, 2),
		failure(1, 0, 2),
		failure(1, 7, 2),
		failure(1, math.MinInt, 3),
		failure(1, math.MaxInt, 3),
		failure(1, math.MinInt, math.MaxInt),
		failure(2, 0, 1),
		failure(3, 0, 0),
		failure(5, 0, 1),
		failure(6, 0, -1),
		failure(math.MaxInt, math.MinInt, math.MinInt),
	}
	for i, a := range l {
		for j, b := range l {
			want := 0
			if i < j {
				want = -1
			} else if i > j {
				want = 1
			}
			if c := fail.Compare(a, b); c != want {
				t.Errorf("Compare(%#v, %#v): %d, not %d", a, b, c, want)
			}
		}
	}
}

// before is the chapter's words about the order once more.
func before(a, b api.Fail) bool {
	if a.Kind != b.Kind {
		return a.Kind < b.Kind
	}
	if a.Run != b.Run {
		return a.Run < b.Run
	}
	return a.Code < b.Code
}

func TestCompareIsAnOrder(t *testing.T) {
	var l []api.Fail
	for _, kind := range []int{math.MinInt, -1, 0, 1, 5, 6, math.MaxInt} {
		for _, code := range []int{math.MinInt, -1, 0, 1, math.MaxInt} {
			for _, run := range []int{math.MinInt, -1, 0, 1, math.MaxInt} {
				l = append(l, failure(kind, code, run))
			}
		}
	}
	for _, a := range l {
		for _, b := range l {
			c := fail.Compare(a, b)
			if (c == -1) != before(a, b) || (c == 1) != before(b, a) || (c == 0) != fail.Same(a, b) {
				t.Fatalf("Compare(%#v, %#v): %d", a, b, c)
			}
		}
	}
}

func TestKinds(t *testing.T) {
	for _, c := range []struct {
		l      []api.Fail
		counts [6]int
	}{
		{nil, [6]int{}},
		{[]api.Fail{}, [6]int{}},
		{[]api.Fail{{}}, [6]int{1}},
		{[]api.Fail{failure(0, 3, 4)}, [6]int{1}}, // by the kind alone
		{[]api.Fail{failure(5, 0, 1)}, [6]int{0, 0, 0, 0, 0, 1}},
		{[]api.Fail{failure(5, 3, -1)}, [6]int{0, 0, 0, 0, 0, 1}},
		{[]api.Fail{failure(6, 0, 1)}, [6]int{}},
		{[]api.Fail{failure(-1, 0, 1)}, [6]int{}},
		{[]api.Fail{failure(math.MinInt, 0, 0), failure(math.MaxInt, 0, 0), failure(1<<32+1, 0, 0), failure(256, 0, 0)}, [6]int{}},
		{[]api.Fail{failure(1, 7, 3), failure(2, 1, 1), failure(1, 7, 3), failure(9, 0, 0), failure(3, 0, 0), failure(1, 0, 0)}, [6]int{0, 3, 1, 1, 0, 0}},
		{[]api.Fail{failure(0, 0, 0), failure(1, 0, 1), failure(2, 0, 1), failure(3, 0, 0), failure(4, 0, 0), failure(5, 0, 1)}, [6]int{1, 1, 1, 1, 1, 1}},
		{[]api.Fail{failure(4, 0, 0), failure(4, 0, 0), failure(4, 1, 2)}, [6]int{0, 0, 0, 0, 3, 0}},
	} {
		if counts := fail.Kinds(c.l...); counts != c.counts {
			t.Errorf("Kinds(%#v): %v, not %v", c.l, counts, c.counts)
		}
	}
	if counts := fail.Kinds(failure(2, 0, 1), failure(2, 0, 2), api.Fail{}); counts != [6]int{1, 0, 2} {
		t.Errorf("one by one: %v", counts)
	}
	var want [6]int
	for kind := range want {
		want[kind] = len(codes) * len(runs)
	}
	if counts := fail.Kinds(all()...); counts != want {
		t.Errorf("of all: %v, not %v", counts, want)
	}
}

// TestKindsLeavesTheList: what is handed in is not changed, nor what lies behind its end (R4).
func TestKindsLeavesTheList(t *testing.T) {
	whole := []api.Fail{failure(1, 7, 3), failure(9, 1, 1), failure(5, 0, 2), failure(4, 0, 0)}
	kept := slices.Clone(whole)
	if counts := fail.Kinds(whole[:2]...); counts != [6]int{0, 1} {
		t.Errorf("%v", counts)
	}
	if !slices.Equal(whole, kept) {
		t.Errorf("changed: %#v", whole)
	}
}
