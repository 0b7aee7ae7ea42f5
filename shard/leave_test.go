package shard_test

import (
	"math"
	"slices"
	"testing"

	"convoy/api"
	"convoy/shard"
)

// cancelOutcome is what one who leaves has.
var cancelOutcome = failure(api.FailCancel, 0, 0)

// leftStill is one who leaves a run in which somebody is interested still.
func leftStill(caller, run int) api.Left {
	return api.Left{Caller: caller, Run: run, Outcome: cancelOutcome}
}

// leftLast is the last one who leaves a run that is not current.
func leftLast(caller, run int) api.Left {
	return api.Left{Caller: caller, Run: run, Cancelled: true, Outcome: cancelOutcome}
}

// leftBoth is the last one who leaves a current run.
func leftBoth(caller, run int) api.Left {
	return api.Left{Caller: caller, Run: run, Cancelled: true, Abandoned: true, Outcome: cancelOutcome}
}

// leave lets a caller leave, and holds what becomes of its run against what should.
func leave(t *testing.T, s *shard.Shards, now int64, caller int, want api.Left) {
	t.Helper()
	if got, err := s.Leave(now, caller); got != want || err != api.OK {
		t.Fatalf("Leave(%d, %d): %+v, %d, not %+v", now, caller, got, err, want)
	}
}

// noLeave looks that callers can not leave, with an error.
func noLeave(t *testing.T, s *shard.Shards, want api.Errno, now int64, callers ...int) {
	t.Helper()
	for _, caller := range callers {
		if got, err := s.Leave(now, caller); got != (api.Left{}) || err != want {
			t.Fatalf("Leave(%d, %d): %+v, %d, not %d", now, caller, got, err, want)
		}
	}
}

// cancel cancels a token, and holds who leaves against who should.
func cancel(t *testing.T, s *shard.Shards, now int64, token int, want ...api.Left) {
	t.Helper()
	if got, err := s.Cancel(now, token); !slices.Equal(got, want) || err != api.OK {
		t.Fatalf("Cancel(%d, %d): %+v, %d, not %+v", now, token, got, err, want)
	}
}

// noCancel looks that tokens can not be cancelled, with an error.
func noCancel(t *testing.T, s *shard.Shards, want api.Errno, now int64, tokens ...int) {
	t.Helper()
	for _, token := range tokens {
		if got, err := s.Cancel(now, token); len(got) != 0 || err != want {
			t.Fatalf("Cancel(%d, %d): %+v, %d, not %d", now, token, got, err, want)
		}
	}
}

// TestLeave: of one who waits in the first, in one in the midst and in the last group: still, as the last one, and of a run that was forgotten (18.1).
func TestLeave(t *testing.T) {
	for _, n := range []int{1, 2, 3, 64} {
		for _, place := range []int{0, n / 2, n - 1} {
			s := fresh(t, n, usual)
			k, other := at(n, place, 0), at(n, place, 1)
			run, second := place+1, n+place+1
			join(t, s, 0, k, 1, 0, led(run, run))
			join(t, s, 0, k, 2, 0, joined(run))
			join(t, s, 0, other, 3, 0, led(second, second))
			leave(t, s, 1, 1, leftStill(1, run))
			noLeave(t, s, api.ErrNone, 1, 1)
			forget(t, s, 1, other, api.Forgot{Generation: 1, Run: second})
			leave(t, s, 2, 2, leftBoth(2, run))
			leave(t, s, 3, 3, leftLast(3, second))
			noLeave(t, s, api.ErrNone, 3, 1, 2, 3)
			stands(t, s, 0, loadsAt(n, place, 2), []int{run, second})
			// The first one's key has no current run any more.
			join(t, s, 3, k, 2, 0, led(2*n+place+1, 2*n+place+1))
		}
	}
}

// TestLeaveElsewhere: who leaves one group leaves the others as they are (18.1, 18.5).
func TestLeaveElsewhere(t *testing.T) {
	s := waiting(t)
	was := say(s.Group(1)) + saySeats(s.Group(1))
	leave(t, s, 5, 1, leftBoth(1, 1))
	if got := say(s.Group(1)) + saySeats(s.Group(1)); got != was {
		t.Fatalf("the other group changed from %s to %s", was, got)
	}
	leave(t, s, 5, 2, leftBoth(2, 2))
}

// TestLeaveNone: callers who never waited, who were told, or may not be (18.1).
func TestLeaveNone(t *testing.T) {
	s := waiting(t)
	end(t, s, 1, 2, value(7), api.Done{Run: api.Run{Run: 2, Key: at(2, 1, 0)}, Told: told(value(7), 2), Current: true, Kept: true})
	was := sayAll(s)
	noLeave(t, s, api.ErrNone, 1, append([]int{2, 3, 4, 1 << 33, math.MaxInt}, noCallers...)...)
	if got := sayAll(s); got != was {
		t.Fatalf("errors changed %s to %s", was, got)
	}
	leave(t, s, 1, 1, leftBoth(1, 1))
}

// TestCancel: all who wait by a token leave, in the order of the groups, in each in the order in which they joined (18.1).
func TestCancel(t *testing.T) {
	s := fresh(t, 3, usual)
	ask := func(place, i, caller, token int) {
		t.Helper()
		if _, err := s.Join(0, at(3, place, i), caller, token); err != api.OK {
			t.Fatalf("Join of %d: %d", caller, err)
		}
	}
	ask(2, 0, 1, 7) // 3
	ask(0, 0, 8, 7) // 1
	ask(1, 0, 3, 6) // 2
	ask(2, 1, 4, 6) // 6
	ask(2, 1, 5, 7)
	ask(0, 0, 2, 7)
	ask(0, 1, 7, 0) // 4
	ask(0, 1, 6, 7)
	ask(2, 0, 9, 7)
	cancel(t, s, 1, 5)
	cancel(t, s, 1, 7, leftStill(8, 1), leftBoth(2, 1), leftStill(6, 4), leftStill(1, 3), leftStill(5, 6), leftBoth(9, 3))
	noLeave(t, s, api.ErrNone, 1, 8, 2, 6, 1, 5, 9)
	cancel(t, s, 1, 7)
	cancel(t, s, 2, 6, leftBoth(3, 2), leftBoth(4, 6))
	for place := range 3 {
		for _, token := range []int{5, 6, 7} {
			noJoin(t, s, api.ErrGone, 2, at(3, place, 2), 1, token)
		}
	}
	leave(t, s, 2, 7, leftBoth(7, 4))
	stands(t, s, 0, []int{2, 1, 2}, []int{1, 2, 3, 4, 6})
}

// TestCancelOne: of a token by which one waits, in each group; each group knows it is cancelled then (18.1).
func TestCancelOne(t *testing.T) {
	for place := range 3 {
		s := fresh(t, 3, usual)
		join(t, s, 0, at(3, place, 0), 1, 1, led(place+1, place+1))
		cancel(t, s, 0, 1, leftBoth(1, place+1))
		for p := range 3 {
			g := s.Group(p)
			if _, err := g.Join(g.Now(), at(3, p, 1), 2, 1); err != api.ErrGone {
				t.Fatalf("the group %d: %d", p, err)
			}
		}
	}
}

// TestCancelWrong: tokens that may not be; who waits by none stays (18.1).
func TestCancelWrong(t *testing.T) {
	s := fresh(t, 2, usual)
	join(t, s, 1, at(2, 0, 0), 1, 0, led(1, 1))
	join(t, s, 1, at(2, 1, 0), 2, 0, led(2, 2))
	was := sayAll(s)
	noCancel(t, s, api.ErrArg, 2, append([]int{0}, noTokens...)...)
	noCancel(t, s, api.ErrBack, 0, 0, 1, -1)
	noCancel(t, s, api.ErrTick, -1, 0, 1, -1)
	if got := sayAll(s); got != was {
		t.Fatalf("errors changed %s to %s", was, got)
	}
	join(t, s, 2, at(2, 0, 1), 3, 0, led(3, 3))
}

// TestEnd: of a run of each place: what it was, who is told, and that the others stay (18.1).
func TestEnd(t *testing.T) {
	for _, n := range []int{1, 2, 3, 64} {
		for _, place := range []int{0, n / 2, n - 1} {
			for i := range 3 {
				s := fresh(t, n, usual)
				for p := range n {
					for j := range 3 {
						run := j*n + p + 1
						join(t, s, 0, at(n, p, j), 1000+run, 0, led(run, run))
					}
				}
				k, run := at(n, place, i), i*n+place+1
				join(t, s, 0, k, 7, 0, joined(run))
				others := s.Progress()
				others = slices.DeleteFunc(others, func(r int) bool { return r == run })
				end(t, s, 1, run, load(run), api.Done{Run: api.Run{Run: run, Key: k}, Told: told(load(run), 1000+run, 7), Current: true, Kept: true})
				loads := slices.Repeat([]int{3}, n)
				loads[place] = 2
				stands(t, s, 1, loads, others)
				noLeave(t, s, api.ErrNone, 1, 7, 1000+run)
				noEnd(t, s, api.ErrRun, 1, run, value(1))
				join(t, s, 1, k, 7, 0, hit(load(run)))
			}
		}
	}
}

// TestEndLeft: the refreshes that are left, as their entries went over the bound, are told by numbers; the keys that went are of that group (18.1).
func TestEndLeft(t *testing.T) {
	for _, n := range []int{1, 2, 5} {
		for place := range n {
			s := fresh(t, n, with(func(c *api.Config) { c.Entries = 1 }))
			k, other := at(n, place, 0), at(n, place, 1)
			number := func(i int) int { return (i-1)*n + place + 1 }
			keep(t, s, 0, k, value(7))
			join(t, s, 5, k, 1, 0, staleLed(number(2), value(7), number(2)))
			join(t, s, 5, other, 1, 0, led(number(3), number(3)))
			end(t, s, 6, number(3), value(8), api.Done{
				Run: api.Run{Run: number(3), Key: other}, Told: told(value(8), 1), Current: true, Kept: true,
				Gone: []api.Key{k}, Left: []int{number(2)},
			})
			end(t, s, 6, number(2), value(9), api.Done{Run: api.Run{Run: number(2), Key: k, Refresh: true}})
		}
	}
}

// TestEndEntries: each group keeps Entries entries of its own (18.1).
func TestEndEntries(t *testing.T) {
	s := fresh(t, 2, with(func(c *api.Config) { c.Entries = 2 }))
	for place := range 2 {
		for i := range 2 {
			keep(t, s, 0, at(2, place, i), value(int64(i)))
		}
	}
	stands(t, s, 4, []int{0, 0}, nil)
	join(t, s, 0, at(2, 1, 2), 1, 0, led(6, 6))
	end(t, s, 0, 6, value(9), api.Done{Run: api.Run{Run: 6, Key: at(2, 1, 2)}, Told: told(value(9), 1), Current: true, Kept: true, Gone: []api.Key{at(2, 1, 0)}})
	stands(t, s, 4, []int{0, 0}, nil)
}

// TestEndGeneration: what a run was has its generation, and that it is a refresh (18.1).
func TestEndGeneration(t *testing.T) {
	s := fresh(t, 2, usual)
	k := at(2, 1, 0)
	for range 3 {
		s.Forget(0, k)
	}
	keep(t, s, 0, k, value(7))
	join(t, s, 5, k, 1, 0, staleLed(4, value(7), 4))
	end(t, s, 5, 4, load(4), api.Done{Run: api.Run{Run: 4, Key: k, Generation: 3, Refresh: true}, Current: true})
}

// TestEndWrong: runs of 0 and below, that never began, of a number whose place has no such run, that ended; outcomes that may not be, behind that (18.1).
func TestEndWrong(t *testing.T) {
	for _, n := range []int{1, 2, 3, 64} {
		s := fresh(t, n, usual)
		join(t, s, 1, at(n, n-1, 0), 1, 0, led(n, n))
		join(t, s, 1, at(n, n-1, 1), 2, 0, led(2*n, 2*n))
		end(t, s, 1, 2*n, value(1), api.Done{Run: api.Run{Run: 2 * n, Key: at(n, n-1, 1)}, Told: told(value(1), 2), Current: true, Kept: true})
		was := sayAll(s)
		runs := []int{0, -1, -2, -n, 1 - n, -n - 1, math.MinInt, math.MinInt + 1, 2 * n, 3 * n, n + 1, 2*n + 1, 1 << 33, math.MaxInt, math.MaxInt - 1}
		for run := 1 - 2*n; run < 4*n; run++ {
			if run != n {
				runs = append(runs, run)
			}
		}
		for _, run := range runs {
			noEnd(t, s, api.ErrRun, 1, run, append([]api.Outcome{value(1), load(1)}, noOutcomes...)...)
			noEnd(t, s, api.ErrBack, 0, run, value(1), noOutcomes[0])
			noEnd(t, s, api.ErrTick, -1, run, value(1), noOutcomes[0])
		}
		noEnd(t, s, api.ErrFail, 2, n, noOutcomes...)
		if got := sayAll(s); got != was {
			t.Fatalf("errors changed %s to %s", was, got)
		}
		end(t, s, 1, n, value(1), api.Done{Run: api.Run{Run: n, Key: at(n, n-1, 0)}, Told: told(value(1), 1), Current: true, Kept: true})
	}
}
