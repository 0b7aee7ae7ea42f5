package trace_test

import (
	"math"
	"slices"
	"testing"

	"convoy/api"
	"convoy/trace"
)

var (
	_ func(api.Event) api.Errno                         = trace.Check
	_ func(api.Event) (string, api.Errno)               = trace.Line
	_ func(string) (api.Event, api.Errno)               = trace.Parse
	_ func() *trace.Trace                               = trace.New
	_ func(*trace.Trace, api.Event) api.Errno           = (*trace.Trace).Add
	_ func(*trace.Trace) int                            = (*trace.Trace).Len
	_ func(*trace.Trace, int) (api.Event, bool)         = (*trace.Trace).At
	_ func(*trace.Trace) []api.Event                    = (*trace.Trace).All
	_ func(*trace.Trace, func(n int, e api.Event) bool) = (*trace.Trace).Each
	_ func(*trace.Trace, ...int) []int                  = (*trace.Trace).OfKind
	_ func(*trace.Trace, int) []int                     = (*trace.Trace).OfRun
	_ func(*trace.Trace, api.Key) []int                 = (*trace.Trace).OfKey
	_ func(*trace.Trace, int) []int                     = (*trace.Trace).OfClient
	_ func(*trace.Trace, int64, int64) []int            = (*trace.Trace).Between
	_ func(*trace.Trace) []int                          = (*trace.Trace).Runs
	_ func(*trace.Trace) []api.Key                      = (*trace.Trace).Keys
	_ func(*trace.Trace) string                         = (*trace.Trace).Text
	_ func(string) (*trace.Trace, int, api.Errno)       = trace.Read
	_ func(*trace.Trace, *trace.Trace) (int, bool)      = trace.Differ
	_ func(*trace.Trace) uint64                         = (*trace.Trace).Sum
)

// made is a trace of events that may be added.
func made(t *testing.T, l ...api.Event) *trace.Trace {
	t.Helper()
	x := trace.New()
	for i, e := range l {
		if err := x.Add(e); err != api.OK {
			t.Fatalf("Add of %+v at %d: %d", e, i, err)
		}
	}
	return x
}

// holds tells that a trace has these events, and no others, whoever asks.
func holds(t *testing.T, x *trace.Trace, want []api.Event) {
	t.Helper()
	if x.Len() != len(want) || !slices.Equal(x.All(), want) {
		t.Fatalf("%d events: %+v, not %+v", x.Len(), x.All(), want)
	}
	for n := -2; n < len(want)+3; n++ {
		e, is := x.At(n)
		if n < 0 || n >= len(want) {
			if e != (api.Event{}) || is {
				t.Fatalf("At(%d): %+v, %v", n, e, is)
			}
			continue
		}
		if e != want[n] || !is {
			t.Fatalf("At(%d): %+v, %v", n, e, is)
		}
	}
	var each []api.Event
	x.Each(func(n int, e api.Event) bool {
		if n != len(each) {
			t.Fatalf("Each: %d at %d", n, len(each))
		}
		each = append(each, e)
		return true
	})
	if !slices.Equal(each, want) {
		t.Fatalf("Each: %+v", each)
	}
}

// TestNew: a trace of nothing (24.2).
func TestNew(t *testing.T) {
	x := trace.New()
	if x == nil {
		t.Fatal("none")
	}
	holds(t, x, nil)
	for _, n := range []int{math.MinInt, -1, 0, 1, math.MaxInt} {
		if e, is := x.At(n); e != (api.Event{}) || is {
			t.Errorf("At(%d): %+v, %v", n, e, is)
		}
	}
	if trace.New() == x {
		t.Error("the same one twice")
	}
}

// TestAdd: each is the last one, and ticks do not go back (24.2).
func TestAdd(t *testing.T) {
	x := trace.New()
	var want []api.Event
	for _, row := range []struct {
		at  int64
		err api.Errno
	}{
		{3, api.OK}, {2, api.ErrBack}, {0, api.ErrBack}, {3, api.OK}, {3, api.OK}, {4, api.OK}, {3, api.ErrBack}, {4, api.OK}, {-1, api.ErrEvent}, {1 << 62, api.OK}, {1<<62 - 1, api.ErrBack}, {1<<62 + 1, api.ErrEvent}, {1 << 62, api.OK}, {0, api.ErrBack}, {math.MaxInt64, api.ErrEvent}, {math.MinInt64, api.ErrEvent},
	} {
		for _, f := range forms {
			e := filled(f)
			e.At = row.at
			if err := x.Add(e); err != row.err {
				t.Fatalf("Add at %d: %d, not %d", row.at, err, row.err)
			}
			if row.err == api.OK {
				want = append(want, e)
			}
		}
		holds(t, x, want)
	}
}

// TestAddWrong: what may not be is told ahead of a tick that goes back, and changes nothing (24.2).
func TestAddWrong(t *testing.T) {
	x := made(t, api.Event{At: 5, Kind: 3, Run: 1})
	for _, e := range []api.Event{{}, {At: 4}, {At: 4, Kind: 12}, {At: 4, Kind: 3, Run: -1}, {At: 4, Kind: 3, Client: 1}, {At: 6, Kind: 3, Key: named("a")}, {At: 6, Kind: 10, Key: wrongKeys[0]}, {At: 4, Kind: 5, Outcome: wrongOutcomes[0]}} {
		if err := x.Add(e); err != api.ErrEvent {
			t.Fatalf("Add(%+v): %d", e, err)
		}
		holds(t, x, []api.Event{{At: 5, Kind: 3, Run: 1}})
	}
	if err := x.Add(api.Event{At: 4, Kind: 3}); err != api.ErrBack {
		t.Fatalf("Add: %d", err)
	}
	if err := x.Add(api.Event{At: 5, Kind: 3, Run: 2}); err != api.OK {
		t.Fatalf("Add: %d", err)
	}
	holds(t, x, []api.Event{{At: 5, Kind: 3, Run: 1}, {At: 5, Kind: 3, Run: 2}})
}

// TestAt: from 0 on, up to the last one (24.2).
func TestAt(t *testing.T) {
	l, _ := sends(5)
	x := made(t, l...)
	for _, n := range []int{math.MinInt, -5, -1, 5, 6, math.MaxInt} {
		if e, is := x.At(n); e != (api.Event{}) || is {
			t.Errorf("At(%d): %+v, %v", n, e, is)
		}
	}
	holds(t, x, l)
}

// TestEachLeft: it goes on until it is told not to (24.2).
func TestEachLeft(t *testing.T) {
	l, _ := sends(6)
	x := made(t, l...)
	for last := range 8 {
		var places []int
		x.Each(func(n int, e api.Event) bool {
			if e != l[n] {
				t.Fatalf("at %d: %+v", n, e)
			}
			places = append(places, n)
			return n < last
		})
		if want := []int{0, 1, 2, 3, 4, 5}[:min(last+1, 6)]; !slices.Equal(places, want) {
			t.Errorf("%v, not %v", places, want)
		}
	}
	x.Each(nil)
	trace.New().Each(nil)
	trace.New().Each(func(int, api.Event) bool { t.Error("called of nothing"); return true })
	holds(t, x, l)
}

// TestEachPanics: no call panics, so what do does is its own end (R1).
func TestEachPanics(t *testing.T) {
	l, _ := sends(6)
	x := made(t, l...)
	for last := range 6 {
		times := 0
		x.Each(func(n int, _ api.Event) bool {
			times++
			if n == last {
				panic("what is handed in panics")
			}
			return true
		})
		if times != last+1 {
			t.Errorf("called %d times, not %d", times, last+1)
		}
	}
	holds(t, x, l)
}

// TestEachWithin: what do asks and adds does not lead Each astray (24.2, R1).
func TestEachWithin(t *testing.T) {
	for n := range 20 {
		l, _ := sends(n)
		x := made(t, l...)
		times := 0
		x.Each(func(at int, e api.Event) bool {
			if e != l[at] {
				t.Fatalf("at %d: %+v", at, e)
			}
			times++
			inner := 0
			x.Each(func(int, api.Event) bool { inner++; return true })
			if inner != n+at || len(x.OfKind(3)) != n+at {
				t.Fatalf("%d events within, at %d of %d", inner, at, n)
			}
			if err := x.Add(api.Event{At: 100, Kind: 3}); err != api.OK {
				t.Fatal(err)
			}
			return true
		})
		if times != n || x.Len() != 2*n {
			t.Fatalf("called %d times of %d, %d events", times, n, x.Len())
		}
	}
}

// TestNil: every call of a nil Trace (24.5).
func TestNil(t *testing.T) {
	var x *trace.Trace
	holds(t, x, nil)
	for _, f := range forms {
		if err := x.Add(filled(f)); err != api.ErrMany {
			t.Errorf("Add: %d", err)
		}
	}
	for _, e := range []api.Event{{}, {Kind: 12}, {At: -1, Kind: 3}, {Kind: 3, Client: 1}} {
		if err := x.Add(e); err != api.ErrEvent {
			t.Errorf("Add(%+v): %d", e, err)
		}
	}
	for _, n := range []int{math.MinInt, -1, 0, 1, math.MaxInt} {
		if e, is := x.At(n); e != (api.Event{}) || is {
			t.Errorf("At(%d): %+v, %v", n, e, is)
		}
	}
	x.Each(nil)
	x.Each(func(int, api.Event) bool { t.Error("called of nil"); return true })
	for _, l := range [][]int{x.OfKind(), x.OfKind(1, 2, 3), x.OfRun(0), x.OfRun(1), x.OfKey(api.Key{}), x.OfKey(named("a")), x.OfClient(0), x.OfClient(1), x.Between(0, 1<<62), x.Runs()} {
		if len(l) != 0 {
			t.Errorf("a list: %v", l)
		}
	}
	if x.Len() != 0 || len(x.All()) != 0 || len(x.Keys()) != 0 || x.Text() != "" {
		t.Errorf("%d, %v, %v, %q", x.Len(), x.All(), x.Keys(), x.Text())
	}
	if x.Sum() != sumByHand("") {
		t.Errorf("Sum: %d", x.Sum())
	}
}

// TestZero: one that New did not make is one of nothing (R1).
func TestZero(t *testing.T) {
	var x trace.Trace
	holds(t, &x, nil)
	if err := x.Add(filled(forms[0])); err != api.OK {
		t.Fatal(err)
	}
	holds(t, &x, []api.Event{filled(forms[0])})
}
