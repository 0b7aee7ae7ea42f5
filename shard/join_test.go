package shard_test

import (
	"slices"
	"testing"

	"convoy/api"
	"convoy/shard"
)

// equal is whether two answers of Join are the same.
func equal(x, y api.Joined) bool {
	return x.How == y.How && x.Run == y.Run && x.Begun == y.Begun && x.Outcome == y.Outcome && slices.Equal(x.Sent, y.Sent)
}

// What a caller meets.
func hit(o api.Outcome) api.Joined { return api.Joined{How: api.HowHit, Outcome: o} }

func stale(run int, o api.Outcome) api.Joined {
	return api.Joined{How: api.HowStale, Run: run, Outcome: o}
}

func staleLed(run int, o api.Outcome, sent ...int) api.Joined {
	return api.Joined{How: api.HowStale, Run: run, Begun: true, Outcome: o, Sent: sent}
}

func joined(run int) api.Joined { return api.Joined{How: api.HowJoined, Run: run} }

func busy() api.Joined { return api.Joined{How: api.HowBusy, Outcome: failure(api.FailBusy, 0, 0)} }

func led(run int, sent ...int) api.Joined {
	return api.Joined{How: api.HowLed, Run: run, Begun: true, Sent: sent}
}

// join lets a caller ask, and holds what it meets against what it should.
func join(t *testing.T, s *shard.Shards, now int64, k api.Key, caller, token int, want api.Joined) {
	t.Helper()
	if got, err := s.Join(now, k, caller, token); !equal(got, want) || err != api.OK {
		t.Fatalf("Join(%d, %v, %d, %d): %+v, %d, not %+v", now, k, caller, token, got, err, want)
	}
}

// noJoin looks that a caller can not ask, with an error.
func noJoin(t *testing.T, s *shard.Shards, want api.Errno, now int64, k api.Key, caller, token int) {
	t.Helper()
	if got, err := s.Join(now, k, caller, token); !equal(got, api.Joined{}) || err != want {
		t.Fatalf("Join(%d, %v, %d, %d): %+v, %d, not %d", now, k, caller, token, got, err, want)
	}
}

// told is what some callers are told who all have one outcome.
func told(o api.Outcome, callers ...int) []api.Told {
	var l []api.Told
	for _, caller := range callers {
		l = append(l, api.Told{Caller: caller, Outcome: o})
	}
	return l
}

// equalDone is whether two answers of End are the same.
func equalDone(x, y api.Done) bool {
	return x.Run == y.Run && slices.Equal(x.Told, y.Told) && x.Current == y.Current && x.Kept == y.Kept &&
		slices.Equal(x.Gone, y.Gone) && slices.Equal(x.Left, y.Left)
}

func noDone(d api.Done) bool { return equalDone(d, api.Done{}) }

// end ends a run, and holds what comes of it against what should.
func end(t *testing.T, s *shard.Shards, now int64, run int, o api.Outcome, want api.Done) {
	t.Helper()
	if got, err := s.End(now, run, o); !equalDone(got, want) || err != api.OK {
		t.Fatalf("End(%d, %d, %v): %+v, %d, not %+v", now, run, o, got, err, want)
	}
}

// noEnd looks that a run can not end with outcomes, with an error.
func noEnd(t *testing.T, s *shard.Shards, want api.Errno, now int64, run int, outcomes ...api.Outcome) {
	t.Helper()
	for _, o := range outcomes {
		if got, err := s.End(now, run, o); !noDone(got) || err != want {
			t.Fatalf("End(%d, %d, %v): %+v, %d, not %d", now, run, o, got, err, want)
		}
	}
}

// keep lets a caller lead a run for a key, which ends at once with an outcome that is kept.
func keep(t *testing.T, s *shard.Shards, now int64, k api.Key, o api.Outcome) {
	t.Helper()
	j, err := s.Join(now, k, 900, 0)
	if j.How != api.HowLed || err != api.OK {
		t.Fatalf("Join(%d, %v): %+v, %d", now, k, j, err)
	}
	if d, err := s.End(now, j.Run, o); !d.Kept || err != api.OK {
		t.Fatalf("End(%d, %d, %v): %+v, %d", now, j.Run, o, d, err)
	}
}

// TestJoinHows: a caller leads, joins, has a hit, a stale one, and is busy in each group, with the runs' numbers by their places, whatever the other groups have (18.1).
func TestJoinHows(t *testing.T) {
	for _, n := range []int{1, 2, 3, 5, 64} {
		s := fresh(t, n, with(func(c *api.Config) { c.Flight, c.Batch = 2, 1 }))
		for place := range n {
			k, other, third := at(n, place, 0), at(n, place, 1), at(n, place, 2)
			caller := 10 * (place + 1)
			now := int64(20 * place)
			first, second := place+1, n+place+1
			join(t, s, now, k, caller, 0, led(first, first))
			join(t, s, now, k, caller+1, caller, joined(first))
			join(t, s, now, other, caller+2, 0, led(second, second))
			join(t, s, now, third, caller+3, 0, busy())
			join(t, s, now, k, caller+3, 0, joined(first))
			end(t, s, now+1, first, value(7), api.Done{
				Run: api.Run{Run: first, Key: k}, Told: told(value(7), caller, caller+1, caller+3), Current: true, Kept: true,
			})
			join(t, s, now+5, k, caller, 0, hit(value(7)))
			join(t, s, now+6, k, caller, 0, staleLed(2*n+place+1, value(7), 2*n+place+1))
			join(t, s, now+7, k, caller, 0, stale(2*n+place+1, value(7)))
			join(t, s, now+10, k, caller, 0, joined(2*n+place+1))
		}
		loads := slices.Repeat([]int{2}, n)
		var progress []int
		for number := n + 1; number <= 3*n; number++ {
			progress = append(progress, number)
		}
		stands(t, s, n, loads, progress)
	}
}

// TestJoinSent: what is sent by a Join is told by numbers, and is of that key's group alone (18.1).
func TestJoinSent(t *testing.T) {
	s := fresh(t, 3, with(func(c *api.Config) { c.Flight, c.Batch, c.Window = 9, 3, 10 }))
	caller := 0
	ask := func(place, i int, want api.Joined) {
		t.Helper()
		caller++
		join(t, s, 0, at(3, place, i), caller, 0, want)
	}
	ask(2, 0, led(3))
	ask(0, 0, led(1))
	ask(2, 1, led(6))
	ask(1, 0, led(2))
	ask(0, 1, led(4))
	ask(2, 2, led(9, 3, 6, 9))
	ask(2, 3, led(12))
	ask(1, 1, led(5))
	ask(0, 2, led(7, 1, 4, 7))
	ask(1, 2, led(8, 2, 5, 8))
	next(t, s, 10)
	stands(t, s, 0, []int{3, 3, 4}, []int{1, 2, 3, 4, 5, 6, 7, 8, 9, 12})
}

// TestJoinSentByARefresh: a stale one that is told sends its refresh's load, too (18.1).
func TestJoinSentByARefresh(t *testing.T) {
	s := fresh(t, 2, with(func(c *api.Config) { c.Flight, c.Batch, c.Window = 9, 2, 10 }))
	k := at(2, 1, 0)
	join(t, s, 0, k, 1, 0, led(2))
	end(t, s, 0, 2, value(7), api.Done{Run: api.Run{Run: 2, Key: k}, Told: told(value(7), 1), Current: true, Kept: true})
	join(t, s, 5, k, 1, 0, staleLed(4, value(7), 2, 4))
}

// TestJoinFlight: each group has Flight runs in progress of its own (18.1).
func TestJoinFlight(t *testing.T) {
	s := fresh(t, 3, with(func(c *api.Config) { c.Flight = 1 }))
	for place := range 3 {
		join(t, s, 0, at(3, place, 0), place+1, 0, led(place+1, place+1))
	}
	for place := range 3 {
		join(t, s, 0, at(3, place, 1), 9, 0, busy())
	}
	end(t, s, 0, 2, failure(api.FailAbort, 0, 2), api.Done{Run: api.Run{Run: 2, Key: at(3, 1, 0)}, Told: told(failure(api.FailAbort, 0, 2), 2), Current: true})
	join(t, s, 0, at(3, 0, 1), 9, 0, busy())
	join(t, s, 0, at(3, 2, 1), 9, 0, busy())
	join(t, s, 0, at(3, 1, 1), 9, 0, led(5, 5))
}

// TestJoinWrong: keys, callers and tokens that may not be, and several at once, in the order of the group's errors (18.1, 16.2).
func TestJoinWrong(t *testing.T) {
	for _, n := range []int{1, 2, 64} {
		s := fresh(t, n, usual)
		join(t, s, 5, at(n, 0, 0), 1, 1, led(1, 1))
		cancel(t, s, 5, 2)
		was := sayAll(s)
		for place := range min(n, 3) {
			k := at(n, place, 1)
			for _, caller := range []int{0, -1, 1, 2} {
				for _, token := range []int{-1, 0, 1, 2} {
					for _, bad := range noKeys {
						noJoin(t, s, api.ErrTick, -1, bad, caller, token)
						noJoin(t, s, api.ErrBack, 4, bad, caller, token)
						noJoin(t, s, api.ErrKey, 5, bad, caller, token)
					}
					noJoin(t, s, api.ErrTick, last+1, k, caller, token)
					noJoin(t, s, api.ErrBack, 4, k, caller, token)
					switch {
					case caller < 1 || token < 0:
						noJoin(t, s, api.ErrArg, 6, k, caller, token)
					case token == 2:
						noJoin(t, s, api.ErrGone, 6, k, caller, token)
					case caller == 1:
						noJoin(t, s, api.ErrWaits, 6, k, caller, token)
					}
				}
			}
			for _, caller := range noCallers {
				noJoin(t, s, api.ErrArg, 5, k, caller, 1)
			}
			for _, token := range noTokens {
				noJoin(t, s, api.ErrArg, 5, k, 2, token)
			}
		}
		if got := sayAll(s); got != was {
			t.Fatalf("errors changed %s to %s", was, got)
		}
	}
}

// TestJoinTokens: tokens of 0, of 1 and of any greater number may be, as long as they are not cancelled (18.1).
func TestJoinTokens(t *testing.T) {
	s := fresh(t, 2, usual)
	for i, token := range []int{0, 1, 2, 1 << 40} {
		join(t, s, 0, at(2, 0, i), 2*i+1, token, led(2*i+1, 2*i+1))
		join(t, s, 0, at(2, 1, i), 2*i+2, token, led(2*i+2, 2*i+2))
	}
}

// TestJoinGone: a token that was cancelled is so for every group, whether somebody waited by it there, elsewhere or nowhere (18.1).
func TestJoinGone(t *testing.T) {
	for _, places := range [][]int{nil, {0}, {1}, {2}, {0, 2}, {0, 1, 2}} {
		s := fresh(t, 3, usual)
		for _, place := range places {
			join(t, s, 0, at(3, place, 0), place+1, 7, led(place+1, place+1))
		}
		s.Cancel(1, 7)
		for place := range 3 {
			noJoin(t, s, api.ErrGone, 1, at(3, place, 1), 9, 7)
			noJoin(t, s, api.ErrGone, last, at(3, place, 0), 9, 7)
		}
		if j, err := s.Join(1, at(3, 1, 2), 9, 8); j.How != api.HowLed || err != api.OK {
			t.Fatalf("Join by another token: %+v, %d", j, err)
		}
	}
}

// TestJoinWaits: a caller that waits in a group can ask in none, until it leaves, its token is cancelled, or its run ends (18.1).
func TestJoinWaits(t *testing.T) {
	ways := []func(s *shard.Shards, run int){
		func(s *shard.Shards, run int) { s.Leave(1, 5) },
		func(s *shard.Shards, run int) { s.Cancel(1, 6) },
		func(s *shard.Shards, run int) { s.End(1, run, failure(api.FailAbort, 0, run)) },
	}
	for place := range 3 {
		for _, goes := range ways {
			for other := range 3 {
				s := fresh(t, 3, usual)
				join(t, s, 0, at(3, place, 0), 5, 6, led(place+1, place+1))
				for p := range 3 {
					noJoin(t, s, api.ErrWaits, 0, at(3, p, 0), 5, 0)
					noJoin(t, s, api.ErrWaits, 0, at(3, p, 1), 5, 6)
				}
				goes(s, place+1)
				j, err := s.Join(1, at(3, other, 1), 5, 0)
				if j.How != api.HowLed || err != api.OK {
					t.Fatalf("Join in %d behind %d: %+v, %d", other, place, j, err)
				}
				for p := range 3 {
					noJoin(t, s, api.ErrWaits, 1, at(3, p, 2), 5, 0)
				}
			}
		}
	}
}

// TestJoinDoesNotWait: who has a hit, a stale one or is busy waits in no group (18.1).
func TestJoinDoesNotWait(t *testing.T) {
	s := fresh(t, 2, with(func(c *api.Config) { c.Flight = 1 }))
	k, other := at(2, 0, 0), at(2, 1, 0)
	keep(t, s, 0, k, value(7))
	keep(t, s, 0, other, value(8))
	for range 2 {
		join(t, s, 4, k, 1, 0, hit(value(7)))
		join(t, s, 4, other, 1, 0, hit(value(8)))
	}
	join(t, s, 5, k, 1, 0, staleLed(3, value(7), 3))
	join(t, s, 5, at(2, 0, 1), 1, 0, busy())
	join(t, s, 5, k, 1, 0, stale(3, value(7)))
	noLeave(t, s, api.ErrNone, 5, 1)
	join(t, s, 5, other, 1, 0, staleLed(4, value(8), 4))
	join(t, s, 9, other, 1, 0, joined(4))
	noJoin(t, s, api.ErrWaits, 9, k, 1, 0)
}

// TestForget: of a key with an entry, with a current run, with both and with neither, in each group (18.1).
func TestForget(t *testing.T) {
	for _, n := range []int{1, 2, 3, 64} {
		for _, place := range []int{0, n / 2, n - 1} {
			s := fresh(t, n, usual)
			k, other := at(n, place, 0), at(n, place, 1)
			forget(t, s, 0, k, api.Forgot{Generation: 1})
			keep(t, s, 0, k, value(7))
			forget(t, s, 1, k, api.Forgot{Kept: true, Generation: 2})
			stands(t, s, 0, make([]int, n), nil)
			run := n + place + 1
			join(t, s, 1, k, 1, 0, led(run, run))
			forget(t, s, 2, k, api.Forgot{Generation: 3, Run: run})
			forget(t, s, 2, k, api.Forgot{Generation: 4})
			forget(t, s, 2, other, api.Forgot{Generation: 1})
			stands(t, s, 0, loadsAt(n, place, 1), []int{run})
			// The one who waits is told still, and nothing is kept of that.
			end(t, s, 3, run, value(1), api.Done{Run: api.Run{Run: run, Key: k, Generation: 2}, Told: told(value(1), 1)})
			// A refresh for which nobody waits is left by that.
			keep(t, s, 3, k, value(7))
			refresh := 3*n + place + 1
			join(t, s, 8, k, 1, 0, staleLed(refresh, value(7), refresh))
			forget(t, s, 8, k, api.Forgot{Kept: true, Generation: 5, Run: refresh, Cancelled: true})
		}
	}
}

// loadsAt is how many runs are in progress, if they all are in one place.
func loadsAt(n, place, runs int) []int {
	l := make([]int, n)
	l[place] = runs
	return l
}

// TestForgetWrong: keys that may not be (18.1).
func TestForgetWrong(t *testing.T) {
	for _, n := range []int{1, 2, 64} {
		s := fresh(t, n, usual)
		keep(t, s, 5, at(n, 0, 0), value(7))
		for _, k := range noKeys {
			noForget(t, s, api.ErrKey, 5, k)
			noForget(t, s, api.ErrBack, 4, k)
			noForget(t, s, api.ErrTick, -1, k)
		}
		stands(t, s, 1, make([]int, n), nil)
	}
}

// forget forgets a key, and holds what was against what should have been.
func forget(t *testing.T, s *shard.Shards, now int64, k api.Key, want api.Forgot) {
	t.Helper()
	if got, err := s.Forget(now, k); got != want || err != api.OK {
		t.Fatalf("Forget(%d, %v): %+v, %d, not %+v", now, k, got, err, want)
	}
}

// noForget looks that a key can not be forgotten, with an error.
func noForget(t *testing.T, s *shard.Shards, want api.Errno, now int64, k api.Key) {
	t.Helper()
	if got, err := s.Forget(now, k); got != (api.Forgot{}) || err != want {
		t.Fatalf("Forget(%d, %v): %+v, %d, not %d", now, k, got, err, want)
	}
}
