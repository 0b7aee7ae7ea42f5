package record_test

import (
	"math"
	"slices"
	"testing"

	"convoy/api"
	"convoy/record"
)

// value is an outcome with a value.
func value(v int64) api.Outcome { return api.Outcome{Value: v} }

// failure is an outcome with a failure.
func failure(kind, code, run int) api.Outcome {
	return api.Outcome{Fail: api.Fail{Kind: kind, Code: code, Run: run}}
}

// load is a failure of a loader.
func load(code int) api.Outcome { return failure(api.FailLoad, code, 4) }

// outcomes is outcomes that may be, of each kind, and of other runs too.
var outcomes = []api.Outcome{
	{}, value(3), value(-1), value(math.MaxInt64), value(math.MinInt64),
	failure(api.FailLoad, 7, 4), failure(api.FailLoad, 0, 1), failure(api.FailLoad, math.MinInt, math.MaxInt),
	failure(api.FailPanic, 7, 4), failure(api.FailPanic, -1, 99),
	failure(api.FailCancel, 0, 0), failure(api.FailBusy, 0, 0),
	failure(api.FailAbort, 0, 4), failure(api.FailAbort, 0, 1),
}

// noOutcomes is outcomes that may not be.
var noOutcomes = []api.Outcome{
	failure(api.FailNone, 1, 0), failure(api.FailNone, 0, 1), failure(api.FailLoad, 0, 0), failure(api.FailLoad, 1, -1),
	failure(api.FailPanic, 1, 0), failure(api.FailCancel, 1, 0), failure(api.FailCancel, 0, 1), failure(api.FailBusy, 0, 1),
	failure(api.FailBusy, 1, 0), failure(api.FailAbort, 0, 0), failure(api.FailAbort, 1, 1), failure(6, 0, 0), failure(6, 0, 1),
	failure(-1, 0, 0), failure(-1, 1, 1), failure(math.MinInt, 0, 1), failure(math.MaxInt, 0, 1),
	{Value: 1, Fail: api.Fail{Kind: api.FailLoad, Code: 1, Run: 1}}, {Value: -1, Fail: api.Fail{Kind: api.FailPanic, Run: 1}},
	{Value: 7, Fail: api.Fail{Kind: api.FailBusy}},
}

// told is what some callers are told who all have one outcome.
func told(o api.Outcome, callers ...int) []api.Told {
	var l []api.Told
	for _, caller := range callers {
		l = append(l, api.Told{Caller: caller, Outcome: o})
	}
	return l
}

// end ends a run, and holds who is told against who should be.
func end(t *testing.T, r *record.Record, o api.Outcome, callers ...int) {
	t.Helper()
	if got, err := r.End(o); !slices.Equal(got, told(o, callers...)) || err != api.OK {
		t.Fatalf("End(%v): %v, %d, not of %v", o, got, err, callers)
	}
}

// noEnd looks that a run does not end with some outcomes, with an error.
func noEnd(t *testing.T, r *record.Record, want api.Errno, l ...api.Outcome) {
	t.Helper()
	for _, o := range l {
		if got, err := r.End(o); len(got) != 0 || err != want {
			t.Fatalf("End(%v): %v, %d, not %d", o, got, err, want)
		}
	}
}

// TestEnd: with each kind of outcome it ends once, and all who waited are told, in their order (11.3).
func TestEnd(t *testing.T) {
	for _, o := range outcomes {
		r := of(t, 5)
		end(t, r, o, 5)
		same(t, r, over(asked, false, o))

		r = of(t, 9, 5, math.MaxInt, 1, 7)
		end(t, r, o, 9, 5, math.MaxInt, 1, 7)
		same(t, r, over(asked, false, o))

		r = refresh(t, 6, 5)
		end(t, r, o, 6, 5)
		same(t, r, over(renewed, false, o))
	}
}

// TestEndWrong: with an outcome that may not be it does not end, and is as it was (11.3).
func TestEndWrong(t *testing.T) {
	r := of(t, 5, 6)
	noEnd(t, r, api.ErrFail, noOutcomes...)
	same(t, r, waited(5, 6))
	end(t, r, value(3), 5, 6)

	r = refresh(t)
	noEnd(t, r, api.ErrFail, noOutcomes...)
	same(t, r, kept())
	join(t, r, 7)
	noEnd(t, r, api.ErrFail, noOutcomes...)
	same(t, r, kept(7))

	r = of(t, 5)
	leaveLast(t, r, 5)
	noEnd(t, r, api.ErrFail, noOutcomes...)
	same(t, r, waited())
}

// TestEndTwice: it is told ahead of an outcome that may not be, and what it ended with stays (11.3).
func TestEndTwice(t *testing.T) {
	for _, first := range outcomes {
		r := of(t, 5, 6)
		end(t, r, first, 5, 6)
		noEnd(t, r, api.ErrEnded, outcomes...)
		noEnd(t, r, api.ErrEnded, noOutcomes...)
		same(t, r, over(asked, false, first))
	}
}

// TestEndOfNone: where nobody is left, or the entry alone is, nobody is told (11.3).
func TestEndOfNone(t *testing.T) {
	for _, o := range outcomes {
		r := of(t, 5, 6)
		leave(t, r, 5)
		leaveLast(t, r, 6)
		end(t, r, o)
		same(t, r, over(asked, true, o))
		noEnd(t, r, api.ErrEnded, value(1), load(1), noOutcomes[0])

		r = refresh(t)
		end(t, r, o)
		same(t, r, over(renewed, false, o))

		r = refresh(t, 5)
		leave(t, r, 5)
		end(t, r, o)
		same(t, r, over(renewed, false, o))

		r = refresh(t)
		release(t, r, true)
		end(t, r, o)
		same(t, r, over(renewed, true, o))
	}
}

// TestCancelledStays: behind the end, whatever is tried there (11.3).
func TestCancelledStays(t *testing.T) {
	try := func(r *record.Record) {
		noJoin(t, r, api.ErrEnded, 5, 6)
		noLeave(t, r, api.ErrEnded, 5, 6)
		release(t, r, false)
		noEnd(t, r, api.ErrEnded, value(8), load(8))
	}
	live, left := of(t, 5, 6), of(t, 5)
	leave(t, live, 5)
	leaveLast(t, left, 5)
	end(t, live, value(3), 6)
	end(t, left, load(3))
	try(live)
	try(left)
	same(t, live, over(asked, false, value(3)))
	same(t, left, over(asked, true, load(3)))

	live, left = refresh(t, 5), refresh(t, 5)
	leave(t, live, 5)
	release(t, left, false)
	leaveLast(t, left, 5)
	end(t, live, load(3))
	end(t, left, value(3))
	try(live)
	try(left)
	same(t, live, over(renewed, false, load(3)))
	same(t, left, over(renewed, true, value(3)))
}

// TestOutcomeOfNothing: a run that ended with the value 0 has an outcome, one in progress has none (11.3).
func TestOutcomeOfNothing(t *testing.T) {
	r := of(t, 5)
	if o, ok := r.Outcome(); ok || o != (api.Outcome{}) {
		t.Errorf("Outcome ahead of the end: %v, %t", o, ok)
	}
	end(t, r, api.Outcome{}, 5)
	if o, ok := r.Outcome(); !ok || o != (api.Outcome{}) {
		t.Errorf("Outcome behind the end: %v, %t", o, ok)
	}
}
