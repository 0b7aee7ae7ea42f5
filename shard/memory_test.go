package shard_test

import (
	"slices"
	"testing"

	"convoy/api"
	"convoy/shard"
)

// spoil overwrites a list, and what lies in the room behind its end.
func spoil[T any](l []T, with T) {
	l = l[:cap(l)]
	for i := range l {
		l[i] = with
	}
}

// What lists are spoilt with.
var (
	badKey  = api.Key{Space: 99, Name: "spoilt"}
	badTold = api.Told{Caller: 99, Outcome: failure(api.FailLoad, 99, 99)}
	badLeft = api.Left{Caller: 99, Run: 99, Cancelled: true, Abandoned: true, Outcome: value(99)}
)

// bustle makes three shards: in the first one a refresh for which nobody waits, one for which somebody does, and entries; in the second one runs that gather, one of them forgotten; in the third one a run that was left, and one that is due; and a cancelled token.
func bustle(t *testing.T) *shard.Shards {
	t.Helper()
	s := fresh(t, 3, api.Config{TTL: 5, Negative: 50, Stale: 4, Entries: 2, Flight: 9, Batch: 3, Window: 10})
	keep(t, s, 0, at(3, 0, 0), value(7))
	keep(t, s, 0, at(3, 0, 1), value(8))
	join(t, s, 5, at(3, 0, 0), 1, 0, staleLed(7, value(7), 1, 4, 7))
	join(t, s, 5, at(3, 0, 1), 2, 0, staleLed(10, value(8)))
	join(t, s, 5, at(3, 1, 0), 3, 3, led(2))
	join(t, s, 5, at(3, 1, 0), 4, 4, joined(2))
	forget(t, s, 5, at(3, 1, 0), api.Forgot{Generation: 1, Run: 2})
	join(t, s, 5, at(3, 1, 0), 5, 3, led(5))
	join(t, s, 6, at(3, 2, 0), 6, 5, led(3))
	leave(t, s, 6, 6, leftBoth(6, 3))
	cancel(t, s, 6, 9)
	join(t, s, 9, at(3, 0, 0), 7, 3, joined(7))
	join(t, s, 9, at(3, 2, 1), 8, 3, led(6))
	return s
}

// change is something that can be done to the busy shards.
type change struct {
	name string
	do   func(s *shard.Shards)
}

// changes is each thing that can be done to them.
func changes(t *testing.T) []change {
	return []change{
		{"a new run", func(s *shard.Shards) { join(t, s, 9, at(3, 1, 1), 9, 0, led(8, 2, 5, 8)) }},
		{"joined", func(s *shard.Shards) { join(t, s, 11, at(3, 2, 1), 9, 6, joined(6)) }},
		{"Leave", func(s *shard.Shards) { leave(t, s, 10, 3, leftStill(3, 2)) }},
		{"Leave of the last one", func(s *shard.Shards) { leave(t, s, 9, 5, leftBoth(5, 5)) }},
		{"Cancel", func(s *shard.Shards) {
			cancel(t, s, 12, 3, leftStill(7, 7), leftStill(3, 2), leftBoth(5, 5), leftBoth(8, 6))
		}},
		{"Cancel of nobody", func(s *shard.Shards) { cancel(t, s, 9, 8) }},
		{"Forget", func(s *shard.Shards) {
			forget(t, s, 9, at(3, 0, 0), api.Forgot{Kept: true, Generation: 1, Run: 7})
		}},
		{"Forget of a refresh", func(s *shard.Shards) {
			forget(t, s, 9, at(3, 0, 1), api.Forgot{Kept: true, Generation: 1, Run: 10, Cancelled: true})
		}},
		{"End", func(s *shard.Shards) {
			end(t, s, 10, 5, value(1), api.Done{Run: api.Run{Run: 5, Key: at(3, 1, 0), Generation: 1}, Told: told(value(1), 5), Current: true, Kept: true})
		}},
		{"End of what was forgotten", func(s *shard.Shards) {
			end(t, s, 9, 2, load(1), api.Done{Run: api.Run{Run: 2, Key: at(3, 1, 0)}, Told: told(load(1), 3, 4)})
		}},
		{"Send", func(s *shard.Shards) { send(t, s, 15, []int{10}, []int{2, 5}) }},
		{"Send to all", func(s *shard.Shards) { send(t, s, 16, []int{10}, []int{2, 5}, []int{3, 6}) }},
		{"Send ahead", func(s *shard.Shards) { send(t, s, 14) }},
	}
}

// ruin does all that can be done to shards.
func ruin(s *shard.Shards) {
	now := timeOf(s) + 20
	for token := 1; token < 12; token++ {
		s.Cancel(now, token)
	}
	for _, run := range s.Progress() {
		s.End(now, run, value(99))
	}
	for _, k := range few {
		s.Forget(now, k)
		s.Join(now, k, 1, 0)
		s.Join(now, k, 2, 31)
	}
	s.Send(now + 90)
}

// TestClone: the clone is the same, and neither of the two sees what is done with the other, however far each has gone (18.4).
func TestClone(t *testing.T) {
	begun := sayAll(bustle(t))
	then := map[string]string{}
	for _, x := range changes(t) {
		s := bustle(t)
		x.do(s)
		then[x.name] = sayAll(s)
		if then[x.name] == begun {
			t.Fatalf("%s changes nothing", x.name)
		}
	}
	hold := func(s *shard.Shards, want, why string) {
		t.Helper()
		if got := sayAll(s); got != want {
			t.Fatalf("%s: %s, not %s", why, got, want)
		}
	}
	for _, first := range changes(t) {
		for _, second := range changes(t) {
			s := bustle(t)
			twin := s.Clone()
			if twin == s {
				t.Fatal("the clone is the shards themselves")
			}
			hold(twin, begun, "a clone")
			first.do(s)
			hold(twin, begun, "the clone behind "+first.name)
			second.do(twin)
			hold(s, then[first.name], first.name+" of the shards behind "+second.name+" of the clone")
			hold(twin, then[second.name], second.name+" of the clone")
		}
		s := bustle(t)
		first.do(s)
		ruin(s.Clone())
		hold(s, then[first.name], "the shards behind the ruin of a clone")
		twin := s.Clone()
		ruin(s)
		hold(twin, then[first.name], "the clone behind the ruin of the shards")
	}
}

// TestCloneWaits: the clone knows which caller waits where, and which tokens are cancelled (18.4).
func TestCloneWaits(t *testing.T) {
	for _, s := range []*shard.Shards{bustle(t).Clone(), bustle(t).Clone().Clone()} {
		for place := range 3 {
			for _, caller := range []int{3, 4, 5, 7, 8} {
				noJoin(t, s, api.ErrWaits, 9, at(3, place, 2), caller, 0)
			}
			noJoin(t, s, api.ErrGone, 9, at(3, place, 2), 1, 9)
		}
		noJoin(t, s, api.ErrBack, 8, at(3, 0, 2), 1, 0)
		leave(t, s, 9, 8, leftBoth(8, 6))
		leave(t, s, 9, 7, leftStill(7, 7))
		noLeave(t, s, api.ErrNone, 9, 8, 7, 6, 1, 2)
		join(t, s, 9, at(3, 2, 2), 7, 3, led(9, 3, 6, 9))
	}
}

// TestListsAreNewMemory: what Progress and Loads tell shares nothing with what is kept, nor with another answer, and stays as it is (R4).
func TestListsAreNewMemory(t *testing.T) {
	s := bustle(t)
	was := sayAll(s)
	progress, loads := s.Progress(), s.Loads()
	sound := func() {
		t.Helper()
		if !slices.Equal(progress, []int{2, 3, 5, 6, 7, 10}) || !slices.Equal(loads, []int{2, 2, 2}) {
			t.Fatalf("an answer changed: %v, %v", progress, loads)
		}
	}
	sound()
	spoil(s.Progress(), 99)
	spoil(s.Loads(), 99)
	if got := sayAll(s); got != was {
		t.Fatalf("spoilt lists changed %s to %s", was, got)
	}
	for _, x := range changes(t) {
		x.do(s)
		sound()
		s = bustle(t)
	}
}

// TestAnswersAreNewMemory: the lists in what Join, Cancel, End and Send tell share nothing with what is kept, nor with one another (R4).
func TestAnswersAreNewMemory(t *testing.T) {
	like := func(name string, s, sound *shard.Shards) {
		t.Helper()
		if got, want := sayAll(s), sayAll(sound); got != want {
			t.Fatalf("behind a spoilt answer of %s: %s, not %s", name, got, want)
		}
	}
	s, sound := bustle(t), bustle(t)
	j, _ := s.Join(9, at(3, 1, 1), 9, 0)
	sound.Join(9, at(3, 1, 1), 9, 0)
	spoil(j.Sent, 99)
	like("Join", s, sound)

	s, sound = bustle(t), bustle(t)
	lefts, _ := s.Cancel(9, 3)
	sound.Cancel(9, 3)
	spoil(lefts, badLeft)
	like("Cancel", s, sound)

	s, sound = bustle(t), bustle(t)
	loads, _ := s.Send(16)
	sound.Send(16)
	spoil(loads[0], 99)
	if !slices.Equal(loads[1], []int{2, 5}) || !slices.Equal(loads[2], []int{3, 6}) {
		t.Fatalf("spoilt with another list: %v", loads)
	}
	spoil(loads[1], 99)
	if !slices.Equal(loads[2], []int{3, 6}) {
		t.Fatalf("spoilt with another list: %v", loads)
	}
	spoil(loads, nil)
	like("Send", s, sound)

	var done [2]api.Done
	both := []*shard.Shards{bustle(t), bustle(t)}
	for i, s := range both {
		join(t, s, 9, at(3, 0, 2), 9, 0, led(13))
		join(t, s, 9, at(3, 0, 2), 11, 0, joined(13))
		end(t, s, 9, 7, value(1), api.Done{Run: api.Run{Run: 7, Key: at(3, 0, 0), Refresh: true}, Told: told(value(1), 7), Current: true, Kept: true})
		done[i], _ = s.End(9, 13, value(2))
	}
	want := api.Done{
		Run: api.Run{Run: 13, Key: at(3, 0, 2)}, Told: told(value(2), 9, 11), Current: true, Kept: true,
		Gone: []api.Key{at(3, 0, 1)}, Left: []int{10},
	}
	if !equalDone(done[0], want) || !equalDone(done[1], want) {
		t.Fatalf("End(9, 13): %+v, not %+v", done, want)
	}
	spoil(done[0].Told, badTold)
	if !slices.Equal(done[0].Gone, want.Gone) || !slices.Equal(done[0].Left, want.Left) {
		t.Fatalf("spoilt with another list: %+v", done[0])
	}
	spoil(done[0].Gone, badKey)
	spoil(done[0].Left, 99)
	like("End", both[0], both[1])
	if !equalDone(done[1], want) {
		t.Fatalf("spoilt with another answer: %+v", done[1])
	}
}

// TestApart: two shards know nothing of one another (R5).
func TestApart(t *testing.T) {
	s, other := bustle(t), bustle(t)
	was := sayAll(other)
	ruin(s)
	if got := sayAll(other); got != was {
		t.Fatalf("others changed %s to %s", was, got)
	}
	stands(t, fresh(t, 3, usual), 0, []int{0, 0, 0}, nil)
}
