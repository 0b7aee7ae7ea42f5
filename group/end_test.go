package group_test

import (
	"slices"
	"testing"

	"convoy/api"
	"convoy/group"
)

// told is what some callers are told who all have one outcome.
func told(o api.Outcome, callers ...int) []api.Told {
	var l []api.Told
	for _, caller := range callers {
		l = append(l, api.Told{Caller: caller, Outcome: o})
	}
	return l
}

// equalDone is whether two answers of End are the same.
func equalDone(x, y api.Done) bool {
	return x.Run == y.Run && slices.Equal(x.Told, y.Told) && x.Current == y.Current && x.Kept == y.Kept &&
		slices.Equal(x.Gone, y.Gone) && slices.Equal(x.Left, y.Left)
}

func noDone(d api.Done) bool { return equalDone(d, api.Done{}) }

// end ends a run, and holds what comes of it against what should.
func end(t *testing.T, g *group.Group, now int64, run int, o api.Outcome, want api.Done) {
	t.Helper()
	if got, err := g.End(now, run, o); !equalDone(got, want) || err != api.OK {
		t.Fatalf("End(%d, %d, %v): %+v, %d, not %+v", now, run, o, got, err, want)
	}
}

// noEnd looks that a run can not end with outcomes, with an error.
func noEnd(t *testing.T, g *group.Group, want api.Errno, now int64, run int, outcomes ...api.Outcome) {
	t.Helper()
	for _, o := range outcomes {
		if got, err := g.End(now, run, o); !noDone(got) || err != want {
			t.Fatalf("End(%d, %d, %v): %+v, %d, not %d", now, run, o, got, err, want)
		}
	}
}

// keepOthers lets runs of b and c, the next ones, end with values, so that these are the last entries; what goes over the bound goes.
func keepOthers(t *testing.T, g *group.Group, now int64) {
	t.Helper()
	for i, k := range []api.Key{b, c} {
		j, err := g.Join(now, k, 900, 0)
		if j.How != api.HowLed || err != api.OK {
			t.Fatalf("Join(%d, %v): %+v, %d", now, k, j, err)
		}
		if d, err := g.End(now, j.Run, value(int64(i+1))); !d.Kept || err != api.OK {
			t.Fatalf("End(%d, %d): %+v, %d", now, j.Run, d, err)
		}
	}
}

// isKept is whether an outcome of a current run that is no refresh is kept with the usual configuration.
func isKept(o api.Outcome) bool {
	return slices.Contains([]int{api.FailNone, api.FailLoad, api.FailPanic}, o.Fail.Kind)
}

// TestEnd: a current run ends with a value and with each kind of failure: all who wait are told in order, and what is to be kept is, in the place of what was (16.5).
func TestEnd(t *testing.T) {
	for _, o := range outcomes {
		for _, was := range [][]api.Kept{nil, {kept(a, value(5), 0)}, {kept(a, load(5), 0), kept(b, value(6), 0)}} {
			g := holding(t, usual, 0, was...)
			join(t, g, 9, a, 5, 3, led(1, 1))
			for _, caller := range []int{9, 4, 6, 1} {
				join(t, g, 9, a, caller, 0, joined(1))
			}
			leave(t, g, 9, 4, leftStill(4, 1))
			join(t, g, 9, c, 4, 3, led(2, 2))
			end(t, g, 10, 1, o, api.Done{Run: api.Run{Run: 1, Key: a}, Told: told(o, 5, 9, 6, 1), Current: true, Kept: isKept(o)})
			then := on(10, asked(2, c, 0, 4)).keeps(was...)
			if isKept(o) {
				others := slices.DeleteFunc(slices.Clone(was), func(e api.Kept) bool { return e.Key == a })
				then = then.keeps(append(others, kept(a, o, 10))...)
			}
			same(t, g, then)
			// They wait no more: the token 3 makes but one of them leave.
			cancel(t, g, 10, 3, leftBoth(4, 2))
			noLeave(t, g, api.ErrNone, 10, 5, 9, 6, 1)
		}
	}
}

// TestEndNotCurrent: what a run ends with that was forgotten, or left, is told to those who wait, and not kept (16.5).
func TestEndNotCurrent(t *testing.T) {
	for _, o := range outcomes {
		g := holding(t, usual, 0, kept(a, load(3), 0))
		join(t, g, 3, a, 1, 0, led(1, 1))
		join(t, g, 3, a, 2, 0, joined(1))
		forget(t, g, 3, a, api.Forgot{Kept: true, Generation: 1, Run: 1})
		join(t, g, 3, a, 3, 0, led(2, 2))
		join(t, g, 3, b, 4, 0, led(3, 3))
		leave(t, g, 3, 4, leftBoth(4, 3))
		end(t, g, 4, 1, o, api.Done{Run: api.Run{Run: 1, Key: a}, Told: told(o, 1, 2)})
		same(t, g, on(4, asked(2, a, 1, 3), asked(3, b, 0).left()).gen(a, 1).gen(b, 1))
		end(t, g, 5, 3, o, api.Done{Run: api.Run{Run: 3, Key: b}})
		same(t, g, on(5, asked(2, a, 1, 3)).gen(a, 1).gen(b, 1))
		end(t, g, 6, 2, o, api.Done{Run: api.Run{Run: 2, Key: a, Generation: 1}, Told: told(o, 3), Current: true, Kept: isKept(o)})
		then := on(6).gen(a, 1).gen(b, 1)
		if isKept(o) {
			then = then.keeps(kept(a, o, 6))
		}
		same(t, g, then)
	}
}

// TestEndRefresh: a value of a refresh is kept in the place of the old one; a failure is not kept, and leaves the old one where it is, with and without waiters (16.5).
func TestEndRefresh(t *testing.T) {
	for _, o := range outcomes {
		for _, callers := range [][]int{nil, {3}, {3, 1, 2}} {
			g := refreshed(t, callers...)
			now, isValue := g.Now(), o.Fail == api.Fail{}
			end(t, g, now+1, 1, o, api.Done{Run: api.Run{Run: 1, Key: a, Refresh: true}, Told: told(o, callers...), Current: true, Kept: isValue})
			then := on(now + 1).of(g.Config()).keeps(kept(a, value(7), 0))
			if isValue {
				then = then.keeps(kept(a, o, now+1))
			}
			same(t, g, then)
			noLeave(t, g, api.ErrNone, now+1, callers...)
		}
	}
}

// TestEndRefreshAgain: behind a failure of a refresh the old value is stale still, and is loaded anew (16.5).
func TestEndRefreshAgain(t *testing.T) {
	g := refreshed(t)
	end(t, g, 6, 1, load(1), api.Done{Run: api.Run{Run: 1, Key: a, Refresh: true}, Current: true})
	join(t, g, 6, a, 1, 0, staleLed(2, value(7), 2))
	end(t, g, 7, 2, failure(api.FailPanic, 1, 2), api.Done{Run: api.Run{Run: 2, Key: a, Refresh: true}, Current: true})
	join(t, g, 8, a, 1, 0, staleLed(3, value(7), 3))
	end(t, g, 9, 3, value(8), api.Done{Run: api.Run{Run: 3, Key: a, Refresh: true}, Current: true, Kept: true})
	join(t, g, 13, a, 1, 0, hit(value(8)))
}

// TestEndRefreshForgotten: a refresh that is current no more keeps nothing, whatever it ends with (16.5).
func TestEndRefreshForgotten(t *testing.T) {
	for _, o := range outcomes {
		g := refreshed(t, 1)
		forget(t, g, 9, a, api.Forgot{Kept: true, Generation: 1, Run: 1})
		end(t, g, 9, 1, o, api.Done{Run: api.Run{Run: 1, Key: a, Refresh: true}, Told: told(o, 1)})
		same(t, g, on(9).of(g.Config()).gen(a, 1))
	}
}

// TestEndReleased: a refresh whose entry went over the bound, and for which somebody waits, is current still: its value is kept, its failure is not (16.5).
func TestEndReleased(t *testing.T) {
	for _, o := range outcomes {
		g := refreshed(t, 1)
		keepOthers(t, g, 9)
		then := on(10).of(g.Config()).keeps(kept(b, value(1), 9), kept(c, value(2), 9))
		if o.Fail == (api.Fail{}) {
			end(t, g, 10, 1, o, api.Done{Run: api.Run{Run: 1, Key: a, Refresh: true}, Told: told(o, 1), Current: true, Kept: true, Gone: []api.Key{b}})
			then = then.keeps(kept(c, value(2), 9), kept(a, o, 10))
		} else {
			end(t, g, 10, 1, o, api.Done{Run: api.Run{Run: 1, Key: a, Refresh: true}, Told: told(o, 1), Current: true})
		}
		same(t, g, then)
	}
}

// TestEndOver: the entry that was used the longest time ago goes over the bound; a run of its key that is no refresh stays as it is (16.5).
func TestEndOver(t *testing.T) {
	g := holding(t, with(func(c *api.Config) { c.Entries = 2 }), 0, kept(a, load(7), 0), kept(b, value(8), 0))
	join(t, g, 3, a, 1, 0, led(1, 1))
	join(t, g, 3, c, 2, 0, led(2, 2))
	join(t, g, 3, long, 3, 0, led(3, 3))
	end(t, g, 4, 2, value(9), api.Done{Run: api.Run{Run: 2, Key: c}, Told: told(value(9), 2), Current: true, Kept: true, Gone: []api.Key{a}})
	same(t, g, on(4, asked(1, a, 0, 1), asked(3, long, 0, 3)).of(g.Config()).keeps(kept(b, value(8), 0), kept(c, value(9), 4)))
	// One in the place of another has none go.
	join(t, g, 4, b, 2, 0, hit(value(8)))
	join(t, g, 9, c, 2, 0, staleLed(4, value(9), 4))
	end(t, g, 9, 4, value(10), api.Done{Run: api.Run{Run: 4, Key: c, Refresh: true}, Current: true, Kept: true})
	// What is not kept has none go, either.
	end(t, g, 9, 3, failure(api.FailAbort, 0, 3), api.Done{Run: api.Run{Run: 3, Key: long}, Told: told(failure(api.FailAbort, 0, 3), 3), Current: true})
	same(t, g, on(9, asked(1, a, 0, 1)).of(g.Config()).keeps(kept(b, value(8), 0), kept(c, value(10), 9)))
	end(t, g, 9, 1, load(1), api.Done{Run: api.Run{Run: 1, Key: a}, Told: told(load(1), 1), Current: true, Kept: true, Gone: []api.Key{b}})
}

// TestEndOverRefresh: an entry that goes over the bound counts no more for its refresh, which is left and abandoned by that, if nobody waits for it (16.5).
func TestEndOverRefresh(t *testing.T) {
	for _, callers := range [][]int{nil, {1}, {1, 2}} {
		g := refreshed(t, callers...)
		now := g.Now()
		join(t, g, now, b, 8, 0, led(2, 2))
		join(t, g, now, c, 9, 0, led(3, 3))
		end(t, g, now, 2, value(1), api.Done{Run: api.Run{Run: 2, Key: b}, Told: told(value(1), 8), Current: true, Kept: true})
		same(t, g, on(now, renewed(1, a, 0, callers...), asked(3, c, 0, 9)).of(g.Config()).keeps(kept(a, value(7), 0), kept(b, value(1), now)))
		want := api.Done{Run: api.Run{Run: 3, Key: c}, Told: told(load(3), 9), Current: true, Kept: true, Gone: []api.Key{a}}
		then := on(now+1, renewed(1, a, 0, callers...).released()).of(g.Config()).keeps(kept(b, value(1), now), kept(c, load(3), now+1))
		if callers == nil {
			want.Left, then = []int{1}, on(now+1, renewed(1, a, 0).left()).of(g.Config()).gen(a, 1).keeps(then.entries...)
		}
		end(t, g, now+1, 3, load(3), want)
		same(t, g, then)
		if callers == nil {
			join(t, g, now+1, a, 1, 0, led(4, 4))
			end(t, g, now+1, 1, value(5), api.Done{Run: api.Run{Run: 1, Key: a, Refresh: true}})
		} else {
			join(t, g, now+1, a, 3, 0, joined(1))
		}
	}
}

// TestEndLeftOnce: a refresh that was left already is not told again when an entry of its key goes (16.5).
func TestEndLeftOnce(t *testing.T) {
	g := refreshed(t)
	keepOthers(t, g, 5)
	then := on(5, renewed(1, a, 0).left()).of(g.Config()).gen(a, 1).keeps(kept(b, value(1), 5), kept(c, value(2), 5))
	same(t, g, then)
	join(t, g, 5, a, 1, 0, led(4, 4))
	end(t, g, 5, 4, value(3), api.Done{Run: api.Run{Run: 4, Key: a, Generation: 1}, Told: told(value(3), 1), Current: true, Kept: true, Gone: []api.Key{b}})
	join(t, g, 5, c, 1, 0, hit(value(2)))
	join(t, g, 5, b, 1, 0, led(5, 5))
	end(t, g, 5, 5, value(4), api.Done{Run: api.Run{Run: 5, Key: b}, Told: told(value(4), 1), Current: true, Kept: true, Gone: []api.Key{a}})
	same(t, g, on(5, then.runs...).of(g.Config()).gen(a, 1).keeps(kept(c, value(2), 5), kept(b, value(4), 5)))
}

// TestEndOwnEntry: an entry in whose place the outcome of its own refresh is put makes no run left (16.5).
func TestEndOwnEntry(t *testing.T) {
	g := holding(t, with(func(c *api.Config) { c.Entries = 1 }), 0, kept(a, value(7), 0))
	join(t, g, 5, a, 1, 0, staleLed(1, value(7), 1))
	end(t, g, 6, 1, value(8), api.Done{Run: api.Run{Run: 1, Key: a, Refresh: true}, Current: true, Kept: true})
	same(t, g, on(6).of(g.Config()).keeps(kept(a, value(8), 6)))
}

// TestEndWrong: of a run that is not in progress, ahead of an outcome that may not be, ahead of what is wrong with neither; a tick ahead of both (16.5).
func TestEndWrong(t *testing.T) {
	g := fresh(t, usual)
	noEnd(t, g, api.ErrRun, 0, 1, value(1), noOutcomes[0])
	join(t, g, 1, a, 1, 0, led(1, 1))
	join(t, g, 1, b, 2, 0, led(2, 2))
	join(t, g, 1, c, 3, 0, led(3, 3))
	end(t, g, 2, 2, value(1), api.Done{Run: api.Run{Run: 2, Key: b}, Told: told(value(1), 2), Current: true, Kept: true})
	leave(t, g, 2, 3, leftBoth(3, 3))
	then := on(2, asked(1, a, 0, 1), asked(3, c, 0).left()).gen(c, 1).keeps(kept(b, value(1), 2))
	for _, run := range append(noRuns, 2, 4) {
		noEnd(t, g, api.ErrRun, 3, run, outcomes...)
		noEnd(t, g, api.ErrRun, 3, run, noOutcomes...)
		noEnd(t, g, api.ErrTick, -1, run, noOutcomes...)
		noEnd(t, g, api.ErrBack, 1, run, noOutcomes...)
	}
	for _, run := range []int{1, 3} {
		noEnd(t, g, api.ErrFail, 3, run, noOutcomes...)
		noEnd(t, g, api.ErrTick, last+1, run, noOutcomes...)
		noEnd(t, g, api.ErrBack, 1, run, noOutcomes...)
	}
	same(t, g, then)
	end(t, g, 3, 3, value(1), api.Done{Run: api.Run{Run: 3, Key: c}})
	noEnd(t, g, api.ErrRun, 3, 3, value(1))
}
