package group_test

import (
	"math"
	"slices"
	"testing"

	"convoy/api"
	"convoy/group"
)

// cancelOutcome is what one who leaves has.
var cancelOutcome = failure(api.FailCancel, 0, 0)

// leftStill is one who leaves a run in which somebody is interested still.
func leftStill(caller, run int) api.Left {
	return api.Left{Caller: caller, Run: run, Outcome: cancelOutcome}
}

// leftLast is the last one who leaves a run that is not current.
func leftLast(caller, run int) api.Left {
	return api.Left{Caller: caller, Run: run, Cancelled: true, Outcome: cancelOutcome}
}

// leftBoth is the last one who leaves a current run.
func leftBoth(caller, run int) api.Left {
	return api.Left{Caller: caller, Run: run, Cancelled: true, Abandoned: true, Outcome: cancelOutcome}
}

// leave lets a caller leave, and holds what becomes of its run against what should.
func leave(t *testing.T, g *group.Group, now int64, caller int, want api.Left) {
	t.Helper()
	if got, err := g.Leave(now, caller); got != want || err != api.OK {
		t.Fatalf("Leave(%d, %d): %+v, %d, not %+v", now, caller, got, err, want)
	}
}

// noLeave looks that callers can not leave, with an error.
func noLeave(t *testing.T, g *group.Group, want api.Errno, now int64, callers ...int) {
	t.Helper()
	for _, caller := range callers {
		if got, err := g.Leave(now, caller); got != (api.Left{}) || err != want {
			t.Fatalf("Leave(%d, %d): %+v, %d, not %d", now, caller, got, err, want)
		}
	}
}

// cancel cancels a token, and holds who leaves against who should.
func cancel(t *testing.T, g *group.Group, now int64, token int, want ...api.Left) {
	t.Helper()
	if got, err := g.Cancel(now, token); !slices.Equal(got, want) || err != api.OK {
		t.Fatalf("Cancel(%d, %d): %+v, %d, not %+v", now, token, got, err, want)
	}
}

// noCancel looks that tokens can not be cancelled, with an error.
func noCancel(t *testing.T, g *group.Group, want api.Errno, now int64, tokens ...int) {
	t.Helper()
	for _, token := range tokens {
		if got, err := g.Cancel(now, token); len(got) != 0 || err != want {
			t.Fatalf("Cancel(%d, %d): %+v, %d, not %d", now, token, got, err, want)
		}
	}
}

// forget forgets a key, and holds what was against what should have been.
func forget(t *testing.T, g *group.Group, now int64, k api.Key, want api.Forgot) {
	t.Helper()
	if got, err := g.Forget(now, k); got != want || err != api.OK {
		t.Fatalf("Forget(%d, %v): %+v, %d, not %+v", now, k, got, err, want)
	}
}

// noForget looks that a key can not be forgotten, with an error.
func noForget(t *testing.T, g *group.Group, want api.Errno, now int64, k api.Key) {
	t.Helper()
	if got, err := g.Forget(now, k); got != (api.Forgot{}) || err != want {
		t.Fatalf("Forget(%d, %v): %+v, %d, not %d", now, k, got, err, want)
	}
}

// TestLeave: one that waits leaves, be it first, last or in the midst; the last one cancels and abandons the run, which is in progress still (16.3).
func TestLeave(t *testing.T) {
	for _, order := range [][]int{{1, 2, 3}, {3, 2, 1}, {2, 1, 3}, {2, 3, 1}} {
		g := fresh(t, usual)
		join(t, g, 0, a, 1, 0, led(1, 1))
		join(t, g, 0, a, 2, 5, joined(1))
		join(t, g, 0, a, 3, 0, joined(1))
		join(t, g, 0, b, 4, 0, led(2, 2))
		waiters := []int{1, 2, 3}
		for i, caller := range order[:2] {
			leave(t, g, int64(i), caller, leftStill(caller, 1))
			waiters = slices.DeleteFunc(waiters, func(w int) bool { return w == caller })
			same(t, g, on(int64(i), asked(1, a, 0, waiters...), asked(2, b, 0, 4)))
		}
		leave(t, g, 2, order[2], leftBoth(order[2], 1))
		then := on(2, asked(1, a, 0).left(), asked(2, b, 0, 4)).gen(a, 1)
		same(t, g, then)
		noLeave(t, g, api.ErrNone, 2, 1, 2, 3)
		same(t, g, then)
		join(t, g, 3, a, 2, 0, led(3, 3))
		leave(t, g, 3, 4, leftBoth(4, 2))
		same(t, g, on(3, asked(1, a, 0).left(), asked(2, b, 0).left(), asked(3, a, 1, 2)).gen(a, 1).gen(b, 1))
	}
}

// TestLeaveNone: who waits for nothing can not leave: who never asked, had something at once, was told, or has left (16.3).
func TestLeaveNone(t *testing.T) {
	g := holding(t, with(func(c *api.Config) { c.Flight = 1 }), 0, kept(b, value(7), 0))
	noLeave(t, g, api.ErrNone, 0, 1, math.MaxInt)
	noLeave(t, g, api.ErrNone, 0, noCallers...)
	join(t, g, 0, b, 1, 0, hit(value(7)))
	join(t, g, 5, b, 2, 0, staleLed(1, value(7), 1))
	join(t, g, 5, a, 3, 0, busy())
	noLeave(t, g, api.ErrNone, 5, 1, 2, 3, 4)
	end(t, g, 5, 1, value(8), api.Done{Run: api.Run{Run: 1, Key: b, Refresh: true}, Current: true, Kept: true})
	join(t, g, 5, a, 4, 0, led(2, 2))
	join(t, g, 5, a, 5, 3, joined(2))
	join(t, g, 5, a, 6, 0, joined(2))
	leave(t, g, 5, 6, leftStill(6, 2))
	cancel(t, g, 5, 3, leftStill(5, 2))
	noLeave(t, g, api.ErrNone, 5, 5, 6)
	end(t, g, 5, 2, load(2), api.Done{Run: api.Run{Run: 2, Key: a}, Told: told(load(2), 4), Current: true, Kept: true})
	noLeave(t, g, api.ErrNone, 5, 4)
	same(t, g, on(5).of(g.Config()).keeps(kept(b, value(8), 5), kept(a, load(2), 5)))
}

// TestLeaveForgotten: the last one who leaves a run that is current no more cancels it, and abandons nothing (16.3).
func TestLeaveForgotten(t *testing.T) {
	g := fresh(t, usual)
	join(t, g, 0, a, 1, 0, led(1, 1))
	join(t, g, 0, a, 2, 0, joined(1))
	forget(t, g, 0, a, api.Forgot{Generation: 1, Run: 1})
	join(t, g, 0, a, 3, 0, led(2, 2))
	leave(t, g, 1, 2, leftStill(2, 1))
	leave(t, g, 1, 1, leftLast(1, 1))
	same(t, g, on(1, asked(1, a, 0).left(), asked(2, a, 1, 3)).gen(a, 1))
	join(t, g, 1, a, 1, 0, joined(2))
}

// refreshed makes a group, of two entries at most, with an entry of a, old by now, whose refresh, the run 1, callers wait for.
func refreshed(t *testing.T, callers ...int) *group.Group {
	t.Helper()
	g := holding(t, with(func(c *api.Config) { c.Entries = 2 }), 0, kept(a, value(7), 0))
	join(t, g, 5, a, 1, 0, staleLed(1, value(7), 1))
	for _, caller := range callers {
		join(t, g, 9, a, caller, caller, joined(1))
	}
	return g
}

// TestLeaveRefresh: the last one who leaves a refresh whose entry is kept does not cancel it, whose entry is gone does (16.3).
func TestLeaveRefresh(t *testing.T) {
	g := refreshed(t, 1, 2)
	leave(t, g, 9, 1, leftStill(1, 1))
	leave(t, g, 9, 2, leftStill(2, 1))
	same(t, g, on(9, renewed(1, a, 0)).of(g.Config()).keeps(kept(a, value(7), 0)))
	join(t, g, 9, a, 1, 0, joined(1))

	g = refreshed(t, 1, 2)
	forget(t, g, 9, a, api.Forgot{Kept: true, Generation: 1, Run: 1})
	leave(t, g, 9, 1, leftStill(1, 1))
	leave(t, g, 9, 2, leftLast(2, 1))
	same(t, g, on(9, renewed(1, a, 0).left()).of(g.Config()).gen(a, 1))

	g = refreshed(t, 1, 2)
	keepOthers(t, g, 9)
	leave(t, g, 9, 2, leftStill(2, 1))
	same(t, g, on(9, renewed(1, a, 0, 1).released()).of(g.Config()).keeps(kept(b, value(1), 9), kept(c, value(2), 9)))
	leave(t, g, 9, 1, leftBoth(1, 1))
	same(t, g, on(9, renewed(1, a, 0).left()).of(g.Config()).gen(a, 1).keeps(kept(b, value(1), 9), kept(c, value(2), 9)))
}

// TestCancel: nobody, one, and several of one run and of several who wait by a token leave, in the order in which they joined, and nobody else (16.3).
func TestCancel(t *testing.T) {
	g := fresh(t, usual)
	join(t, g, 0, a, 9, 3, led(1, 1))
	join(t, g, 0, b, 8, 3, led(2, 2))
	join(t, g, 0, a, 7, 4, joined(1))
	join(t, g, 0, c, 6, 0, led(3, 3))
	join(t, g, 0, b, 5, 3, joined(2))
	join(t, g, 0, a, 4, 3, joined(1))
	join(t, g, 0, c, 3, 6, joined(3))
	join(t, g, 0, long, 2, 3, led(4, 4))
	cancel(t, g, 1, 5)
	cancel(t, g, 1, math.MaxInt)
	same(t, g, on(1, asked(1, a, 0, 9, 7, 4), asked(2, b, 0, 8, 5), asked(3, c, 0, 6, 3), asked(4, long, 0, 2)))
	cancel(t, g, 2, 6, leftStill(3, 3))
	cancel(t, g, 3, 3, leftStill(9, 1), leftStill(8, 2), leftBoth(5, 2), leftStill(4, 1), leftBoth(2, 4))
	then := on(3, asked(1, a, 0, 7), asked(2, b, 0).left(), asked(3, c, 0, 6), asked(4, long, 0).left()).gen(b, 1).gen(long, 1)
	same(t, g, then)
	for _, token := range []int{3, 5, 6} {
		cancel(t, g, 3, token)
		noJoin(t, g, api.ErrGone, 3, a, 20, token)
	}
	same(t, g, then)
	noLeave(t, g, api.ErrNone, 3, 9, 8, 5, 4, 2, 3)
	join(t, g, 3, a, 9, 4, joined(1))
	cancel(t, g, 3, 4, leftStill(7, 1), leftBoth(9, 1))
}

// TestCancelNone: the token 0 is none, nor are those below it; who waits by none stays (16.3).
func TestCancelNone(t *testing.T) {
	g := fresh(t, usual)
	join(t, g, 2, a, 1, 0, led(1, 1))
	noCancel(t, g, api.ErrArg, 2, 0)
	noCancel(t, g, api.ErrArg, 2, noTokens...)
	noCancel(t, g, api.ErrTick, -1, 0, -1, 1)
	noCancel(t, g, api.ErrBack, 1, 0, -1, 1)
	same(t, g, on(2, asked(1, a, 0, 1)))
	join(t, g, 2, a, 2, 0, joined(1))
	join(t, g, 2, a, 3, 1, joined(1))
}

// TestCancelIsLeave: what Cancel tells is what Leave tells of each, one behind the other, and what comes of it is the same but for the token (16.3).
func TestCancelIsLeave(t *testing.T) {
	g := refreshed(t)
	join(t, g, 9, a, 1, 3, joined(1))
	join(t, g, 9, b, 2, 3, led(2, 2))
	join(t, g, 9, b, 3, 3, joined(2))
	forget(t, g, 9, b, api.Forgot{Generation: 1, Run: 2})
	join(t, g, 9, b, 4, 3, led(3, 3))
	twin := g.Clone()
	var want []api.Left
	for caller := 1; caller <= 4; caller++ {
		l, err := twin.Leave(10, caller)
		if err != api.OK {
			t.Fatalf("Leave(10, %d): %d", caller, err)
		}
		want = append(want, l)
	}
	if !slices.Equal(want, []api.Left{leftStill(1, 1), leftStill(2, 2), leftLast(3, 2), leftBoth(4, 3)}) {
		t.Fatalf("they leave: %+v", want)
	}
	cancel(t, g, 10, 3, want...)
	then := on(10, renewed(1, a, 0), asked(2, b, 0).left(), asked(3, b, 1).left()).of(g.Config()).gen(b, 2).keeps(kept(a, value(7), 0))
	same(t, g, then)
	same(t, twin, then)
	noJoin(t, g, api.ErrGone, 10, a, 1, 3)
	join(t, twin, 10, a, 1, 3, joined(1))
}

// TestForget: of a key with an entry, fresh, stale or old, and of one without, with a current run and without: what there was goes, and its generation goes on (16.4).
func TestForget(t *testing.T) {
	for _, now := range []int64{0, 4, 5, 8, 9, last} {
		g := holding(t, usual, 0, kept(a, value(7), 0), kept(b, load(1), 0))
		forget(t, g, now, a, api.Forgot{Kept: true, Generation: 1})
		same(t, g, on(now).gen(a, 1).keeps(kept(b, load(1), 0)))
		forget(t, g, now, a, api.Forgot{Generation: 2})
		forget(t, g, now, b, api.Forgot{Kept: true, Generation: 1})
		forget(t, g, now, c, api.Forgot{Generation: 1})
		same(t, g, on(now).gen(a, 2).gen(b, 1).gen(c, 1))
		join(t, g, now, a, 1, 0, led(1, 1))
		same(t, g, on(now, asked(1, a, 2, 1)).gen(a, 2).gen(b, 1).gen(c, 1))
	}
}

// TestForgetRun: a run that is no refresh goes on for those who wait, and is current no more; what it ends with is not kept (16.4).
func TestForgetRun(t *testing.T) {
	g := holding(t, usual, 0, kept(a, load(1), 0), kept(b, value(8), 0))
	join(t, g, 3, a, 1, 0, led(1, 1))
	join(t, g, 3, a, 2, 0, joined(1))
	forget(t, g, 4, a, api.Forgot{Kept: true, Generation: 1, Run: 1})
	same(t, g, on(4, asked(1, a, 0, 1, 2).past()).gen(a, 1).keeps(kept(b, value(8), 0)))
	forget(t, g, 4, a, api.Forgot{Generation: 2})
	join(t, g, 4, a, 3, 0, led(2, 2))
	forget(t, g, 4, a, api.Forgot{Generation: 3, Run: 2})
	end(t, g, 5, 1, value(7), api.Done{Run: api.Run{Run: 1, Key: a}, Told: told(value(7), 1, 2)})
	same(t, g, on(5, asked(2, a, 2, 3).past()).gen(a, 3).keeps(kept(b, value(8), 0)))
	// One that was abandoned is current no more, either.
	join(t, g, 5, c, 4, 0, led(3, 3))
	leave(t, g, 5, 4, leftBoth(4, 3))
	forget(t, g, 5, c, api.Forgot{Generation: 2})
}

// TestForgetRefresh: a refresh for which nobody waits is left by that, and not abandoned, so that the generation goes on once; with waiters it goes on for these (16.4).
func TestForgetRefresh(t *testing.T) {
	g := refreshed(t)
	forget(t, g, 6, a, api.Forgot{Kept: true, Generation: 1, Run: 1, Cancelled: true})
	same(t, g, on(6, renewed(1, a, 0).left()).of(g.Config()).gen(a, 1))
	join(t, g, 6, a, 1, 0, led(2, 2))
	end(t, g, 6, 1, value(1), api.Done{Run: api.Run{Run: 1, Key: a, Refresh: true}})

	g = refreshed(t, 1, 2)
	forget(t, g, 9, a, api.Forgot{Kept: true, Generation: 1, Run: 1})
	same(t, g, on(9, renewed(1, a, 0, 1, 2).past()).of(g.Config()).gen(a, 1))
	end(t, g, 9, 1, value(1), api.Done{Run: api.Run{Run: 1, Key: a, Refresh: true}, Told: told(value(1), 1, 2)})

	// Who waited for it and left is not there any more.
	g = refreshed(t, 1)
	leave(t, g, 9, 1, leftStill(1, 1))
	forget(t, g, 9, a, api.Forgot{Kept: true, Generation: 1, Run: 1, Cancelled: true})

	// Its entry went over the bound ahead of that.
	g = refreshed(t, 1)
	keepOthers(t, g, 9)
	forget(t, g, 9, a, api.Forgot{Generation: 1, Run: 1})
	same(t, g, on(9, renewed(1, a, 0, 1).past()).of(g.Config()).gen(a, 1).keeps(kept(b, value(1), 9), kept(c, value(2), 9)))
}

// TestForgetWrong: a key that may not be, behind a tick that may not (16.4).
func TestForgetWrong(t *testing.T) {
	g := holding(t, usual, 5, kept(a, value(7), 0))
	for _, k := range noKeys {
		noForget(t, g, api.ErrKey, 5, k)
		noForget(t, g, api.ErrKey, 9, k)
		noForget(t, g, api.ErrBack, 4, k)
		noForget(t, g, api.ErrTick, -1, k)
	}
	same(t, g, on(5).keeps(kept(a, value(7), 0)))
}
