package table_test

import (
	"math"
	"slices"
	"testing"

	"convoy/api"
	"convoy/table"
)

// value is an outcome with a value.
func value(v int64) api.Outcome { return api.Outcome{Value: v} }

// failure is an outcome with a failure.
func failure(kind, code, run int) api.Outcome {
	return api.Outcome{Fail: api.Fail{Kind: kind, Code: code, Run: run}}
}

// outcomes is outcomes that may be, of each kind, and of other runs too.
var outcomes = []api.Outcome{
	{}, value(3), value(math.MinInt64),
	failure(api.FailLoad, 7, 1), failure(api.FailPanic, -1, 99),
	failure(api.FailCancel, 0, 0), failure(api.FailBusy, 0, 0), failure(api.FailAbort, 0, 4),
}

// noOutcomes is outcomes that may not be.
var noOutcomes = []api.Outcome{
	failure(api.FailNone, 1, 0), failure(api.FailLoad, 1, 0), failure(api.FailPanic, 1, -1), failure(api.FailCancel, 0, 1),
	failure(api.FailBusy, 1, 0), failure(api.FailAbort, 1, 1), failure(6, 0, 1), failure(-1, 0, 0),
	{Value: 1, Fail: api.Fail{Kind: api.FailLoad, Code: 1, Run: 1}},
}

// told is what some callers are told who all have one outcome.
func told(o api.Outcome, callers ...int) []api.Told {
	var l []api.Told
	for _, caller := range callers {
		l = append(l, api.Told{Caller: caller, Outcome: o})
	}
	return l
}

// end ends a run, and holds who is told, and whether it was current, against what should be.
func end(t *testing.T, x *table.Table, run int, o api.Outcome, current bool, callers ...int) {
	t.Helper()
	if got, was, err := x.End(run, o); !slices.Equal(got, told(o, callers...)) || was != current || err != api.OK {
		t.Fatalf("End(%d, %v): %v, %t, %d, not %t, of %v", run, o, got, was, err, current, callers)
	}
}

// noEnd looks that a run does not end with some outcomes, with an error.
func noEnd(t *testing.T, x *table.Table, want api.Errno, run int, l ...api.Outcome) {
	t.Helper()
	for _, o := range l {
		if got, was, err := x.End(run, o); len(got) != 0 || was || err != want {
			t.Fatalf("End(%d, %v): %v, %t, %d, not %d", run, o, got, was, err, want)
		}
	}
}

// forget forgets a key, and holds its new generation and the run that was current against what they should be.
func forget(t *testing.T, x *table.Table, k api.Key, generation, run int) {
	t.Helper()
	if g, r, err := x.Forget(k); g != generation || r != run || err != api.OK {
		t.Fatalf("Forget(%v): %d, %d, %d, not %d, %d", k, g, r, err, generation, run)
	}
}

// noForget looks that keys can not be forgotten, with an error.
func noForget(t *testing.T, x *table.Table, want api.Errno, l ...api.Key) {
	t.Helper()
	for _, k := range l {
		if g, r, err := x.Forget(k); g != 0 || r != 0 || err != want {
			t.Fatalf("Forget(%v): %d, %d, %d, not %d", k, g, r, err, want)
		}
	}
}

// TestForget: a key without a run, with one, and twice; those who wait wait still, and other keys stay (12.3).
func TestForget(t *testing.T) {
	x := of(t, 9)
	forget(t, x, a, 1, 0)
	same(t, x, on(0).gen(a, 1))
	forget(t, x, a, 2, 0)
	begin(t, x, 1, a, 5)
	begin(t, x, 2, b, 5)
	begin(t, x, 3, c, 5)
	join(t, x, 1, 6)
	forget(t, x, a, 3, 1)
	then := on(3, asked(1, a, 2, 5, 6).past(), asked(2, b, 0, 5), asked(3, c, 0, 5))
	same(t, x, then.gen(a, 3))
	forget(t, x, a, 4, 0)
	same(t, x, then.gen(a, 4))
	forget(t, x, c, 1, 3)
	then.runs[2] = then.runs[2].past()
	same(t, x, then.gen(a, 4).gen(c, 1))
}

// TestForgetAll: each key has a generation of its own, the least and the greatest too (12.3).
func TestForgetAll(t *testing.T) {
	x := of(t, 9)
	then := on(0)
	for i, k := range keys {
		for g := range i + 1 {
			forget(t, x, k, g+1, 0)
		}
		then = then.gen(k, i+1)
		same(t, x, then)
	}
}

// TestForgetRefresh: a refresh that is forgotten is in progress, and is not left by that alone (12.3).
func TestForgetRefresh(t *testing.T) {
	x := of(t, 9)
	renew(t, x, 1, a)
	forget(t, x, a, 1, 1)
	same(t, x, on(1, renewed(1, a, 0).past()).gen(a, 1))
	join(t, x, 1, 5)
	same(t, x, on(1, renewed(1, a, 0, 5).past()).gen(a, 1))
}

// TestForgetWhatWasLeft: what is left by all is no current run that could be told (12.3).
func TestForgetWhatWasLeft(t *testing.T) {
	x := of(t, 9)
	begin(t, x, 1, a, 5)
	leave(t, x, 1, both, 5)
	forget(t, x, a, 2, 0)
	same(t, x, on(1, asked(1, a, 0).left()).gen(a, 2))
	begin(t, x, 2, b, 5)
	end(t, x, 2, value(1), true, 5)
	forget(t, x, b, 1, 0)
	same(t, x, on(2, asked(1, a, 0).left()).gen(a, 2).gen(b, 1))
}

// TestForgetWrong: a key that may not be changes nothing (12.3).
func TestForgetWrong(t *testing.T) {
	x := of(t, 9)
	noForget(t, x, api.ErrKey, noKeys...)
	same(t, x, on(0))
	begin(t, x, 1, long, 5)
	noForget(t, x, api.ErrKey, noKeys...)
	same(t, x, on(1, asked(1, long, 0, 5)))
}

// TestEnd: with each kind of outcome, all who wait are told in their order, of a run that is current (12.3).
func TestEnd(t *testing.T) {
	for _, o := range outcomes {
		x := of(t, 9)
		begin(t, x, 1, a, 9)
		join(t, x, 1, 5, math.MaxInt, 1, 7)
		leave(t, x, 1, still, 1)
		join(t, x, 1, 1)
		renew(t, x, 2, b)
		renew(t, x, 3, c)
		join(t, x, 3, 6, 5)
		end(t, x, 1, o, true, 9, 5, math.MaxInt, 7, 1)
		same(t, x, on(3, renewed(2, b, 0), renewed(3, c, 0, 6, 5)))
		end(t, x, 3, o, true, 6, 5)
		same(t, x, on(3, renewed(2, b, 0)))
		end(t, x, 2, o, true)
		same(t, x, on(3))
	}
}

// TestEndOfOneThatIsNotCurrent: forgotten or left, with the key's present run beside it, which stays (12.3).
func TestEndOfOneThatIsNotCurrent(t *testing.T) {
	for _, o := range outcomes {
		x := of(t, 9)
		begin(t, x, 1, a, 5)
		join(t, x, 1, 6)
		forget(t, x, a, 1, 1)
		begin(t, x, 2, a, 7)
		leave(t, x, 2, both, 7)
		begin(t, x, 3, a, 8)
		end(t, x, 2, o, false)
		same(t, x, on(3, asked(1, a, 0, 5, 6).past(), asked(3, a, 2, 8)).gen(a, 2))
		end(t, x, 1, o, false, 5, 6)
		same(t, x, on(3, asked(3, a, 2, 8)).gen(a, 2))
		end(t, x, 3, o, true, 8)
		same(t, x, on(3).gen(a, 2))
	}
}

// TestEndWithNobody: where all left, the entry alone is there, or is not, nobody is told (12.3).
func TestEndWithNobody(t *testing.T) {
	x := of(t, 9)
	begin(t, x, 1, a, 5)
	leave(t, x, 1, both, 5)
	renew(t, x, 2, b)
	renew(t, x, 3, c)
	release(t, x, 3, both)
	renew(t, x, 4, c)
	forget(t, x, c, 2, 4)
	end(t, x, 1, value(1), false)
	end(t, x, 2, value(2), true)
	end(t, x, 3, failure(api.FailAbort, 0, 3), false)
	end(t, x, 4, value(4), false)
	same(t, x, on(4).gen(a, 1).gen(c, 2))
}

// TestEndWrong: with an outcome that may not be a run does not end, be it current, forgotten or left (12.3).
func TestEndWrong(t *testing.T) {
	x := of(t, 9)
	begin(t, x, 1, a, 5)
	forget(t, x, a, 1, 1)
	begin(t, x, 2, a, 6)
	leave(t, x, 2, both, 6)
	begin(t, x, 3, a, 7)
	renew(t, x, 4, b)
	for run := 1; run <= 4; run++ {
		noEnd(t, x, api.ErrFail, run, noOutcomes...)
	}
	same(t, x, on(4, asked(1, a, 0, 5).past(), asked(2, a, 1).left(), asked(3, a, 2, 7), renewed(4, b, 0)).gen(a, 2))
	end(t, x, 3, value(3), true, 7)
}

// TestEndTwice: a run that has ended is none, ahead of an outcome that may not be, and its key's next run stays (12.3).
func TestEndTwice(t *testing.T) {
	x := of(t, 9)
	begin(t, x, 1, a, 5)
	end(t, x, 1, value(3), true, 5)
	noneOf(t, x, 1)
	begin(t, x, 2, a, 6)
	noneOf(t, x, 1)
	same(t, x, on(2, asked(2, a, 0, 6)))
}

// TestGenerationStays: at a beginning, a joining, a leaving that is not the last, an end, and all that is refused (12.6, T1).
func TestGenerationStays(t *testing.T) {
	x := of(t, 2)
	forget(t, x, a, 1, 0)
	begin(t, x, 1, a, 5)
	join(t, x, 1, 6)
	leave(t, x, 1, still, 5)
	noBegin(t, x, api.ErrCurrent, a, false, 5)
	noLeave(t, x, api.ErrAway, 1, 5)
	noJoin(t, x, api.ErrWaiting, 1, 6)
	noEnd(t, x, api.ErrFail, 1, noOutcomes...)
	same(t, x, on(1, asked(1, a, 1, 6)).gen(a, 1))
	end(t, x, 1, failure(api.FailLoad, 1, 1), true, 6)
	renew(t, x, 2, a)
	end(t, x, 2, value(1), true)
	same(t, x, on(2).gen(a, 1))
}

// TestBegun: runs that ended count, and calls that were refused do not, nor do they use up a number (12.4).
func TestBegun(t *testing.T) {
	x := of(t, 1)
	for run := 1; run <= 5; run++ {
		begin(t, x, run, a, 5)
		noBegin(t, x, api.ErrBusy, b, false, 5)
		noBegin(t, x, api.ErrCurrent, a, true, 0)
		noBegin(t, x, api.ErrArg, b, false, 0)
		noBegin(t, x, api.ErrKey, noKeys[0], false, 5)
		same(t, x, on(run, asked(run, a, 0, 5)))
		end(t, x, run, value(1), true, 5)
		same(t, x, on(run))
	}
}
