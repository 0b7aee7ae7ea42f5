package trace_test

import (
	"math"
	"testing"

	"convoy/api"
	"convoy/trace"
)

// may holds Check and Line against whether an event may be, and Add too.
func may(t *testing.T, e api.Event, want bool) {
	t.Helper()
	if want {
		if err := trace.Check(e); err != api.OK {
			t.Fatalf("Check(%+v): %d", e, err)
		}
		if line, err := trace.Line(e); line == "" || err != api.OK {
			t.Fatalf("Line(%+v): %q, %d", e, line, err)
		}
		if err := trace.New().Add(e); err != api.OK {
			t.Fatalf("Add(%+v): %d", e, err)
		}
		return
	}
	if err := trace.Check(e); err != api.ErrEvent {
		t.Fatalf("Check(%+v): %d", e, err)
	}
	if line, err := trace.Line(e); line != "" || err != api.ErrEvent {
		t.Fatalf("Line(%+v): %q, %d", e, line, err)
	}
	x := trace.New()
	if err := x.Add(e); err != api.ErrEvent || x.Len() != 0 {
		t.Fatalf("Add(%+v): %d", e, err)
	}
	var none *trace.Trace
	if err := none.Add(e); err != api.ErrEvent {
		t.Fatalf("Add(%+v) of nil: %d", e, err)
	}
}

// TestKinds: there are eleven kinds, and no others (24.1).
func TestKinds(t *testing.T) {
	for _, kind := range []int{math.MinInt, -11, -1, 0, 12, 13, 256, 257, 1 << 32, 1<<32 + 1, math.MaxInt} {
		may(t, api.Event{Kind: kind}, false)
		may(t, api.Event{At: 5, Kind: kind, Run: 1}, false)
	}
	for kind := 1; kind <= 11; kind++ {
		may(t, api.Event{Kind: kind}, true)
		may(t, api.Event{At: 5, Kind: kind}, true)
	}
}

// TestTicks: an event's tick is one (24.1).
func TestTicks(t *testing.T) {
	for _, f := range forms {
		for at, is := range map[int64]bool{math.MinInt64: false, -1: false, 0: true, 1: true, 1<<62 - 1: true, 1 << 62: true, 1<<62 + 1: false, math.MaxInt64: false} {
			e := filled(f)
			e.At = at
			may(t, e, is)
			may(t, api.Event{At: at, Kind: f.kind}, is)
		}
	}
}

// TestNamed: what a kind names may be there, what it does not name may not (24.1).
func TestNamed(t *testing.T) {
	for _, f := range forms {
		may(t, filled(f), true)
		for _, row := range []struct {
			named bool
			lay   func(e *api.Event)
		}{
			{f.client, func(e *api.Event) { e.Client = 1 }},
			{f.caller, func(e *api.Event) { e.Caller = 1 }},
			{f.run, func(e *api.Event) { e.Run = 1 }},
			{f.generation, func(e *api.Event) { e.Generation = 1 }},
			{f.how, func(e *api.Event) { e.How = 1 }},
			{f.key, func(e *api.Event) { e.Key.Name = "a" }},
			{f.key, func(e *api.Event) { e.Key.Space = 1 }},
			{f.hasOutcomes, func(e *api.Event) { e.Outcome.Value = 1 }},
			{f.hasOutcomes, func(e *api.Event) { e.Outcome.Value = -1 }},
			{f.hasOutcomes, func(e *api.Event) { e.Outcome = failed(1, 0, 1) }},
			{f.hasOutcomes, func(e *api.Event) { e.Outcome = failed(4, 0, 0) }},
		} {
			alone := api.Event{Kind: f.kind}
			row.lay(&alone)
			may(t, alone, row.named)
			beside := filled(f)
			beside.Outcome = api.Outcome{}
			row.lay(&beside)
			may(t, beside, row.named)
		}
	}
}

// TestNumbers: they are from 0 on, and as great as they like (24.1).
func TestNumbers(t *testing.T) {
	for _, f := range forms {
		for n, is := range map[int]bool{math.MinInt: false, -2: false, -1: false, 0: true, 1: true, 7: true, 1 << 32: true, math.MaxInt: true} {
			for _, row := range []struct {
				named bool
				lay   func(e *api.Event)
			}{
				{f.client, func(e *api.Event) { e.Client = n }},
				{f.caller, func(e *api.Event) { e.Caller = n }},
				{f.run, func(e *api.Event) { e.Run = n }},
				{f.generation, func(e *api.Event) { e.Generation = n }},
			} {
				e := filled(f)
				row.lay(&e)
				may(t, e, is && row.named || n == 0)
				alone := api.Event{Kind: f.kind}
				row.lay(&alone)
				may(t, alone, is && row.named || n == 0)
			}
		}
	}
}

// TestHow: it is from 0 to 6, where it is named (24.1).
func TestHow(t *testing.T) {
	for _, f := range forms {
		for _, how := range []int{math.MinInt, -6, -1, 0, 1, 2, 3, 4, 5, 6, 7, 8, 256, 1 << 32, math.MaxInt} {
			e := filled(f)
			e.How = how
			may(t, e, how == 0 || f.how && how >= 1 && how <= 6)
		}
	}
}

// TestOutcomes: they may be as chapter 3 says (24.1).
func TestOutcomes(t *testing.T) {
	for _, f := range forms {
		e := filled(f)
		for _, row := range outcomes {
			e.Outcome = row.outcome
			may(t, e, f.hasOutcomes)
		}
		for _, wrong := range wrongOutcomes {
			e.Outcome = wrong
			may(t, e, false)
		}
	}
}

// TestKeysMayBe: a name has at most 64 bytes, whichever (24.1).
func TestKeysMayBe(t *testing.T) {
	for _, f := range forms {
		e := filled(f)
		for _, row := range keys {
			e.Key = row.key
			may(t, e, f.key)
		}
		for _, wrong := range wrongKeys {
			e.Key = wrong
			may(t, e, false)
		}
	}
}
