package table_test

import (
	"math"
	"testing"

	"convoy/api"
	"convoy/table"
)

// What becomes of a run that somebody leaves.
var (
	still     = api.Gone{}
	cancelled = api.Gone{Cancelled: true}
	both      = api.Gone{Cancelled: true, Abandoned: true}
)

// join lets callers wait, one behind the other.
func join(t *testing.T, x *table.Table, run int, callers ...int) {
	t.Helper()
	for _, caller := range callers {
		if err := x.Join(run, caller); err != api.OK {
			t.Fatalf("Join(%d, %d): %d", run, caller, err)
		}
	}
}

// noJoin looks that callers can not join, with an error.
func noJoin(t *testing.T, x *table.Table, want api.Errno, run int, callers ...int) {
	t.Helper()
	for _, caller := range callers {
		if err := x.Join(run, caller); err != want {
			t.Fatalf("Join(%d, %d): %d, not %d", run, caller, err, want)
		}
	}
}

// leave lets callers leave, and holds what becomes of the run by each of them against what should.
func leave(t *testing.T, x *table.Table, run int, want api.Gone, callers ...int) {
	t.Helper()
	for _, caller := range callers {
		if gone, err := x.Leave(run, caller); gone != want || err != api.OK {
			t.Fatalf("Leave(%d, %d): %+v, %d, not %+v", run, caller, gone, err, want)
		}
	}
}

// noLeave looks that callers can not leave, with an error.
func noLeave(t *testing.T, x *table.Table, want api.Errno, run int, callers ...int) {
	t.Helper()
	for _, caller := range callers {
		if gone, err := x.Leave(run, caller); gone != still || err != want {
			t.Fatalf("Leave(%d, %d): %+v, %d, not %d", run, caller, gone, err, want)
		}
	}
}

// release lets an entry go, and holds what becomes of the run against what should.
func release(t *testing.T, x *table.Table, run int, want api.Gone) {
	t.Helper()
	if gone, err := x.Release(run); gone != want || err != api.OK {
		t.Fatalf("Release(%d): %+v, %d, not %+v", run, gone, err, want)
	}
}

// noRelease looks that there is no entry to be let go, with an error.
func noRelease(t *testing.T, x *table.Table, want api.Errno, runs ...int) {
	t.Helper()
	for _, run := range runs {
		if gone, err := x.Release(run); gone != still || err != want {
			t.Fatalf("Release(%d): %+v, %d, not %d", run, gone, err, want)
		}
	}
}

// TestJoin: who joins waits behind the others, for a current run, one that was forgotten, and a refresh (12.2).
func TestJoin(t *testing.T) {
	x := of(t, 9)
	begin(t, x, 1, a, 5)
	renew(t, x, 2, b)
	join(t, x, 1, 9, 1, math.MaxInt)
	join(t, x, 2, 5)
	same(t, x, on(2, asked(1, a, 0, 5, 9, 1, math.MaxInt), renewed(2, b, 0, 5)))
	forget(t, x, a, 1, 1)
	forget(t, x, b, 1, 2)
	begin(t, x, 3, a, 5)
	join(t, x, 1, 6)
	join(t, x, 2, 4)
	join(t, x, 3, 6)
	same(t, x, on(3, asked(1, a, 0, 5, 9, 1, math.MaxInt, 6).past(), renewed(2, b, 0, 5, 4).past(), asked(3, a, 1, 5, 6)).gen(a, 1).gen(b, 1))
}

// wrongCallers tries all callers on a run of which there is nothing, and those who may not be.
var wrongCallers = []int{5, 6, 1, math.MaxInt, 0, -1, math.MinInt}

// noneOf looks that nothing can be done to a number that no run in progress has, ahead of all other errors.
func noneOf(t *testing.T, x *table.Table, run int) {
	t.Helper()
	noJoin(t, x, api.ErrRun, run, wrongCallers...)
	noLeave(t, x, api.ErrRun, run, wrongCallers...)
	noRelease(t, x, api.ErrRun, run)
	noEnd(t, x, api.ErrRun, run, outcomes...)
	noEnd(t, x, api.ErrRun, run, noOutcomes...)
}

// TestNoRun: of a run that was never begun, and of one that has ended, whether it was current, forgotten or left (12.2, 12.3).
func TestNoRun(t *testing.T) {
	x := of(t, 9)
	noneOf(t, x, 1)
	begin(t, x, 1, a, 5)
	then := on(1, asked(1, a, 0, 5))
	noneOf(t, x, 2)
	for _, run := range noRuns {
		noneOf(t, x, run)
	}
	same(t, x, then)

	end(t, x, 1, value(3), true, 5)
	noneOf(t, x, 1)
	same(t, x, on(1))
	begin(t, x, 2, a, 5)
	forget(t, x, a, 1, 2)
	begin(t, x, 3, a, 5)
	leave(t, x, 3, both, 5)
	renew(t, x, 4, a)
	end(t, x, 2, value(3), false, 5)
	end(t, x, 3, value(3), false)
	end(t, x, 4, value(3), true)
	for run := range 6 {
		noneOf(t, x, run)
	}
	same(t, x, on(4).gen(a, 2))
}

// TestJoinWrong: each error of a record's, of a current run, one that was forgotten, and one that was left; nothing is changed by it (12.2).
func TestJoinWrong(t *testing.T) {
	x := of(t, 9)
	begin(t, x, 1, a, 5)
	join(t, x, 1, 6)
	forget(t, x, a, 1, 1)
	begin(t, x, 2, a, 5)
	begin(t, x, 3, b, 5)
	leave(t, x, 3, both, 5)
	then := on(3, asked(1, a, 0, 5, 6).past(), asked(2, a, 1, 5), asked(3, b, 0).left()).gen(a, 1).gen(b, 1)
	for run := 1; run <= 3; run++ {
		noJoin(t, x, api.ErrArg, run, noCallers...)
	}
	noJoin(t, x, api.ErrWaiting, 1, 5, 6)
	noJoin(t, x, api.ErrWaiting, 2, 5)
	noJoin(t, x, api.ErrLeft, 3, 5, 6, 1, math.MaxInt)
	same(t, x, then)
	leave(t, x, 1, still, 5)
	leave(t, x, 1, cancelled, 6)
	noJoin(t, x, api.ErrLeft, 1, 5, 6, 7)
	noJoin(t, x, api.ErrArg, 1, noCallers...)
	join(t, x, 2, 7)
	then.runs[0], then.runs[1] = asked(1, a, 0).left(), asked(2, a, 1, 5, 7)
	same(t, x, then)
}

// TestLeaveWrong: who does not wait can not leave, and changes nothing (12.2).
func TestLeaveWrong(t *testing.T) {
	x := of(t, 9)
	begin(t, x, 1, a, 5)
	begin(t, x, 2, b, 6)
	renew(t, x, 3, c)
	begin(t, x, 4, empty, 7)
	leave(t, x, 4, both, 7)
	then := on(4, asked(1, a, 0, 5), asked(2, b, 0, 6), renewed(3, c, 0), asked(4, empty, 0).left()).gen(empty, 1)
	for run := 1; run <= 4; run++ {
		noLeave(t, x, api.ErrAway, run, noCallers...)
		noLeave(t, x, api.ErrAway, run, 7, 1, math.MaxInt)
	}
	noLeave(t, x, api.ErrAway, 1, 6)
	noLeave(t, x, api.ErrAway, 2, 5)
	noLeave(t, x, api.ErrAway, 3, 5, 6)
	same(t, x, then)
	forget(t, x, a, 1, 1)
	noLeave(t, x, api.ErrAway, 1, 6, 0)
	same(t, x, on(4, asked(1, a, 0, 5).past(), then.runs[1], then.runs[2], then.runs[3]).gen(empty, 1).gen(a, 1))
}

// TestLeaveCurrent: the last one who leaves a current run cancels and abandons it; the run is in progress still (12.2).
func TestLeaveCurrent(t *testing.T) {
	x := of(t, 9)
	begin(t, x, 1, a, 5)
	begin(t, x, 2, b, 5)
	join(t, x, 1, 6, 7)
	leave(t, x, 1, still, 6)
	same(t, x, on(2, asked(1, a, 0, 5, 7), asked(2, b, 0, 5)))
	leave(t, x, 1, still, 5)
	join(t, x, 1, 6)
	leave(t, x, 1, still, 7)
	same(t, x, on(2, asked(1, a, 0, 6), asked(2, b, 0, 5)))
	leave(t, x, 1, both, 6)
	same(t, x, on(2, asked(1, a, 0).left(), asked(2, b, 0, 5)).gen(a, 1))
	begin(t, x, 3, a, 6)
	same(t, x, on(3, asked(1, a, 0).left(), asked(2, b, 0, 5), asked(3, a, 1, 6)).gen(a, 1))
	leave(t, x, 3, both, 6)
	leave(t, x, 2, both, 5)
	same(t, x, on(3, asked(1, a, 0).left(), asked(2, b, 0).left(), asked(3, a, 1).left()).gen(a, 2).gen(b, 1))
}

// TestLeaveForgotten: the last one who leaves a run that was forgotten cancels it, and nothing more, whether its key has a run anew or has none (12.2).
func TestLeaveForgotten(t *testing.T) {
	x := of(t, 9)
	begin(t, x, 1, a, 5)
	join(t, x, 1, 6)
	forget(t, x, a, 1, 1)
	begin(t, x, 2, b, 5)
	forget(t, x, b, 1, 2)
	begin(t, x, 3, a, 7)
	leave(t, x, 1, still, 5)
	leave(t, x, 1, cancelled, 6)
	leave(t, x, 2, cancelled, 5)
	same(t, x, on(3, asked(1, a, 0).left(), asked(2, b, 0).left(), asked(3, a, 1, 7)).gen(a, 1).gen(b, 1))
	leave(t, x, 3, both, 7)
	same(t, x, on(3, asked(1, a, 0).left(), asked(2, b, 0).left(), asked(3, a, 1).left()).gen(a, 2).gen(b, 1))
}

// TestLeaveRefresh: the last one who leaves a refresh cancels and abandons it only if its entry is kept no more (12.2).
func TestLeaveRefresh(t *testing.T) {
	x := of(t, 9)
	renew(t, x, 1, a)
	join(t, x, 1, 5, 6)
	leave(t, x, 1, still, 5, 6)
	same(t, x, on(1, renewed(1, a, 0)))
	join(t, x, 1, 6, 7)
	release(t, x, 1, still)
	same(t, x, on(1, renewed(1, a, 0, 6, 7)))
	leave(t, x, 1, still, 6)
	leave(t, x, 1, both, 7)
	same(t, x, on(1, renewed(1, a, 0).left()).gen(a, 1))

	renew(t, x, 2, a)
	join(t, x, 2, 5)
	forget(t, x, a, 2, 2)
	release(t, x, 2, still)
	leave(t, x, 2, cancelled, 5)
	same(t, x, on(2, renewed(1, a, 0).left(), renewed(2, a, 1).left()).gen(a, 2))
}

// TestRelease: of a refresh that is current and one that is not, with and without callers, twice (12.2).
func TestRelease(t *testing.T) {
	x := of(t, 9)
	renew(t, x, 1, a)
	renew(t, x, 2, b)
	release(t, x, 1, both)
	same(t, x, on(2, renewed(1, a, 0).left(), renewed(2, b, 0)).gen(a, 1))
	release(t, x, 1, still)
	same(t, x, on(2, renewed(1, a, 0).left(), renewed(2, b, 0)).gen(a, 1))

	join(t, x, 2, 5)
	release(t, x, 2, still)
	release(t, x, 2, still)
	same(t, x, on(2, renewed(1, a, 0).left(), renewed(2, b, 0, 5)).gen(a, 1))

	renew(t, x, 3, a)
	forget(t, x, a, 2, 3)
	begin(t, x, 4, a, 6)
	release(t, x, 3, cancelled)
	release(t, x, 3, still)
	same(t, x, on(4, renewed(1, a, 0).left(), renewed(2, b, 0, 5), renewed(3, a, 1).left(), asked(4, a, 2, 6)).gen(a, 2))
}

// TestReleaseOfNoRefresh: nothing comes of it, be the run current, forgotten or left (12.2).
func TestReleaseOfNoRefresh(t *testing.T) {
	x := of(t, 9)
	begin(t, x, 1, a, 5)
	forget(t, x, a, 1, 1)
	begin(t, x, 2, a, 5)
	leave(t, x, 2, both, 5)
	begin(t, x, 3, a, 5)
	for run := 1; run <= 3; run++ {
		release(t, x, run, still)
		release(t, x, run, still)
	}
	same(t, x, on(3, asked(1, a, 0, 5).past(), asked(2, a, 1).left(), asked(3, a, 2, 5)).gen(a, 2))
}

// TestNobodyJoinsWhatWasLeft: nor by an entry, and whoever tries (12.6).
func TestNobodyJoinsWhatWasLeft(t *testing.T) {
	x := of(t, 9)
	renew(t, x, 1, a)
	release(t, x, 1, both)
	begin(t, x, 2, b, 5)
	leave(t, x, 2, both, 5)
	begin(t, x, 3, c, 5)
	forget(t, x, c, 1, 3)
	leave(t, x, 3, cancelled, 5)
	for run := 1; run <= 3; run++ {
		noJoin(t, x, api.ErrLeft, run, 5, 6, 1, math.MaxInt)
		noLeave(t, x, api.ErrAway, run, 5, 6)
		release(t, x, run, still)
	}
	same(t, x, on(3, renewed(1, a, 0).left(), asked(2, b, 0).left(), asked(3, c, 0).left()).gen(a, 1).gen(b, 1).gen(c, 1))
}
