package shard_test

import (
	"math"
	"slices"
	"strings"
	"testing"

	"convoy/api"
	"convoy/shard"
)

// send asks for what is due, and holds it against what should be.
func send(t *testing.T, s *shard.Shards, now int64, want ...[]int) {
	t.Helper()
	if got, err := s.Send(now); !slices.EqualFunc(got, want, slices.Equal) || err != api.OK {
		t.Fatalf("Send(%d): %v, %d, not %v", now, got, err, want)
	}
}

// noSend looks that nothing is sent at some ticks, with an error.
func noSend(t *testing.T, s *shard.Shards, want api.Errno, ticks ...int64) {
	t.Helper()
	for _, now := range ticks {
		if got, err := s.Send(now); len(got) != 0 || err != want {
			t.Fatalf("Send(%d): %v, %d, not %d", now, got, err, want)
		}
	}
}

// gathering is a configuration by which runs gather.
func gathering(batch int, window int64) api.Config {
	return with(func(c *api.Config) { c.Flight, c.Batch, c.Window = 10, batch, window })
}

// TestSend: the loads that are due are sent group by group, at the tick at which they are due and behind it, and not ahead of it; Next is the least of all that gather still (18.2).
func TestSend(t *testing.T) {
	s := fresh(t, 3, gathering(5, 10))
	send(t, s, 0)
	next(t, s, -1)
	join(t, s, 3, at(3, 2, 0), 1, 0, led(3))
	next(t, s, 13)
	join(t, s, 4, at(3, 0, 0), 2, 0, led(1))
	next(t, s, 13)
	join(t, s, 5, at(3, 2, 1), 3, 0, led(6))
	join(t, s, 6, at(3, 0, 1), 4, 0, led(4))
	join(t, s, 7, at(3, 1, 0), 5, 0, led(2))
	join(t, s, 7, at(3, 0, 2), 6, 0, led(7))
	next(t, s, 13)
	send(t, s, 12)
	next(t, s, 13)
	late := s.Clone()
	send(t, s, 13, []int{3, 6})
	next(t, s, 14)
	send(t, s, 13)
	send(t, s, 14, []int{1, 4, 7})
	next(t, s, 17)
	send(t, s, 16)
	send(t, s, 17, []int{2})
	next(t, s, -1)
	send(t, s, 17)
	send(t, s, last)

	two := late.Clone()
	send(t, two, 16, []int{1, 4, 7}, []int{3, 6})
	next(t, two, 17)
	send(t, two, last, []int{2})
	send(t, late, 17, []int{1, 4, 7}, []int{2}, []int{3, 6})
	next(t, late, -1)
	stands(t, late, 0, []int{3, 1, 2}, []int{1, 2, 3, 4, 6, 7})
}

// TestSendEachGroup: each group's load gathers by itself, by Batch and by Window (18.2).
func TestSendEachGroup(t *testing.T) {
	for _, n := range []int{1, 2, 64} {
		s := fresh(t, n, gathering(2, 10))
		var want [][]int
		for place := range n {
			join(t, s, int64(place)/8, at(n, place, 0), place+1, 0, led(place+1))
			want = append(want, []int{place + 1})
		}
		next(t, s, 10)
		full := s.Clone()
		send(t, s, 9)
		send(t, s, int64(n-1)/8+10, want...)
		next(t, s, -1)
		// The second one of a group sends that group's alone.
		now := int64(n-1) / 8
		join(t, full, now, at(n, n-1, 1), n+1, 0, led(2*n, n, 2*n))
		send(t, full, now+10, want[:n-1]...)
	}
}

// TestNext: the least of all groups that gather, the first, the last or one in the midst, behind it too (18.2).
func TestNext(t *testing.T) {
	for first := range 3 {
		for second := range 3 {
			if first == second {
				continue
			}
			s := fresh(t, 3, gathering(5, 10))
			join(t, s, 0, at(3, first, 0), 1, 0, led(first+1))
			next(t, s, 10)
			join(t, s, 4, at(3, second, 0), 2, 0, led(second+1))
			next(t, s, 10)
			forget(t, s, 30, at(3, second, 0), api.Forgot{Generation: 1, Run: second + 1})
			next(t, s, 10)
			join(t, s, 30, at(3, first, 1), 3, 0, led(3+first+1))
			next(t, s, 10)
		}
	}
}

// TestNextAtTheEdges: a load that is due at the tick 0 is sent at once, and one that would be due behind the last tick is at it (18.2).
func TestNextAtTheEdges(t *testing.T) {
	s := fresh(t, 2, gathering(5, 0))
	join(t, s, 0, at(2, 1, 0), 1, 0, led(2, 2))
	next(t, s, -1)
	s = fresh(t, 2, gathering(5, most))
	join(t, s, 5, at(2, 1, 0), 1, 0, led(2))
	next(t, s, last)
	send(t, s, last-1)
	send(t, s, last, []int{2})
}

// TestSendWrong: ticks that may not be (18.2).
func TestSendWrong(t *testing.T) {
	s := fresh(t, 2, gathering(5, 10))
	join(t, s, 5, at(2, 0, 0), 1, 0, led(1))
	was := sayAll(s)
	noSend(t, s, api.ErrTick, noTicks...)
	noSend(t, s, api.ErrBack, 0, 4)
	if got := sayAll(s); got != was {
		t.Fatalf("errors changed %s to %s", was, got)
	}
}

// TestPlace: a key's place is its part of n, of every kind of key, and of one that may not be; it is where its runs are (18.2).
func TestPlace(t *testing.T) {
	for n := 1; n <= 64; n++ {
		s := fresh(t, n, least)
		for _, k := range slices.Concat(few, noKeys, []api.Key{
			{}, {Space: 1}, {Space: 256}, {Space: math.MaxUint16}, {Name: "\x00"}, {Name: "\xff\xfe"}, {Name: "\u00e4"},
			{Name: strings.Repeat("n", 63)}, {Name: strings.Repeat("n", 64)}, {Name: strings.Repeat("n", 256)}, {Space: 7, Name: "a:b"},
		}) {
			if got := s.Place(k); got != placeOf(k, n) || got < 0 || got >= n {
				t.Fatalf("Place(%v) of %d: %d, not %d", k, n, got, placeOf(k, n))
			}
		}
	}
	// Worked out apart from this program, from chapter 2.
	s := fresh(t, 64, least)
	got := []int{s.Place(api.Key{}), s.Place(api.Key{Name: "a"}), s.Place(api.Key{Name: "b"}), s.Place(api.Key{Space: 258, Name: "x"})}
	if !slices.Equal(got, []int{12, 19, 11, 3}) {
		t.Errorf("places: %v", got)
	}
}

// TestPlaceIsWhereRunsAre: a run of a key is in the group of its place, and in no other (18.1, 18.2).
func TestPlaceIsWhereRunsAre(t *testing.T) {
	for _, n := range []int{1, 2, 3, 64} {
		for _, k := range append([]api.Key{{}, {Name: strings.Repeat("n", 64)}, {Space: math.MaxUint16, Name: "\xff"}}, few...) {
			s := fresh(t, n, usual)
			place := placeOf(k, n)
			join(t, s, 0, k, 1, 0, led(place+1, place+1))
			for p := range n {
				run, has := s.Group(p).Current(k)
				if has != (p == place) || has && run != 1 {
					t.Fatalf("Current(%v) of the group %d of %d: %d, %t", k, p, n, run, has)
				}
			}
		}
	}
}

// TestGroup: a copy of each place's group, by its own numbers, that is changed without the shards, and they without it; none elsewhere (18.2).
func TestGroup(t *testing.T) {
	s := fresh(t, 3, gathering(4, 10))
	for place := range 3 {
		for i := range place + 1 {
			join(t, s, int64(place), at(3, place, i), 10*place+i+1, 1, led(3*i+place+1))
		}
	}
	keep(t, s, 2, at(3, 1, 2), value(7))
	was := sayAll(s)
	for place := range 3 {
		g := s.Group(place)
		runs := [][]int{{1}, {1, 2}, {1, 2, 3}}[place]
		if !slices.Equal(g.Progress(), runs) || g.Now() != int64([]int{0, 2, 2}[place]) {
			t.Fatalf("Group(%d): %v at %d", place, g.Progress(), g.Now())
		}
		own := say(g)
		g.Cancel(9, 1)
		for _, run := range runs {
			g.End(9, run, value(1))
		}
		g.Join(9, at(3, place, 0), 1, 0)
		g.Forget(9, at(3, 1, 2))
		if sayAll(s) != was {
			t.Fatalf("the shards changed by a copy: %s, not %s", sayAll(s), was)
		}
		if again := s.Group(place); again == g || say(again) != own {
			t.Fatalf("a second copy of %d: %s, not %s", place, say(again), own)
		}
	}
	copies := []string{}
	groups := []func() string{}
	for place := range 3 {
		g := s.Group(place)
		groups, copies = append(groups, func() string { return say(g) + saySeats(g) }), append(copies, say(g)+saySeats(g))
	}
	cancel(t, s, 9, 1, leftBoth(1, 1), leftBoth(11, 2), leftBoth(12, 5), leftBoth(21, 3), leftBoth(22, 6), leftBoth(23, 9))
	s.Forget(9, at(3, 1, 2))
	for place, again := range groups {
		if got := again(); got != copies[place] {
			t.Fatalf("a copy of %d changed by the shards: %s, not %s", place, got, copies[place])
		}
	}
	for _, place := range []int{-1, 3, 4, -3, math.MinInt, math.MaxInt} {
		if g := s.Group(place); g != nil {
			t.Fatalf("Group(%d): %v", place, g)
		}
	}
}

// TestGroupTimes: a group's time is the greatest tick that came to it; Cancel and Send come to all (18.2).
func TestGroupTimes(t *testing.T) {
	s := fresh(t, 2, usual)
	times := func(want ...int64) {
		t.Helper()
		if got := []int64{s.Group(0).Now(), s.Group(1).Now()}; !slices.Equal(got, want) {
			t.Fatalf("the groups' times: %v, not %v", got, want)
		}
	}
	join(t, s, 1, at(2, 0, 0), 1, 0, led(1, 1))
	times(1, 0)
	forget(t, s, 2, at(2, 1, 0), api.Forgot{Generation: 1})
	times(1, 2)
	leave(t, s, 3, 1, leftBoth(1, 1))
	times(3, 2)
	join(t, s, 4, at(2, 1, 0), 1, 0, led(2, 2))
	times(3, 4)
	end(t, s, 5, 1, value(1), api.Done{Run: api.Run{Run: 1, Key: at(2, 0, 0)}})
	times(5, 4)
	cancel(t, s, 6, 9)
	times(6, 6)
	send(t, s, 7)
	times(7, 7)
}

// TestAsked: Progress, Entries, Loads and Len with runs and entries in several groups (18.2).
func TestAsked(t *testing.T) {
	s := fresh(t, 4, with(func(c *api.Config) { c.Flight = 9 }))
	join(t, s, 0, at(4, 3, 0), 1, 0, led(4, 4))
	join(t, s, 0, at(4, 1, 0), 2, 0, led(2, 2))
	join(t, s, 0, at(4, 3, 1), 3, 0, led(8, 8))
	join(t, s, 0, at(4, 0, 0), 4, 0, led(1, 1))
	join(t, s, 0, at(4, 1, 1), 5, 0, led(6, 6))
	join(t, s, 0, at(4, 3, 2), 6, 0, led(12, 12))
	stands(t, s, 0, []int{1, 2, 0, 3}, []int{1, 2, 4, 6, 8, 12})
	s.End(1, 4, value(1))
	s.End(1, 12, load(12))
	s.End(1, 6, failure(api.FailAbort, 0, 6))
	s.End(1, 1, value(2))
	stands(t, s, 3, []int{0, 1, 0, 1}, []int{2, 8})
	// An old entry is one, too, and a run that was left is in progress still.
	leave(t, s, 99, 2, leftBoth(2, 2))
	stands(t, s, 3, []int{0, 1, 0, 1}, []int{2, 8})
	s.End(99, 2, value(1))
	s.End(99, 8, value(1))
	stands(t, s, 4, []int{0, 0, 0, 0}, nil)
	forget(t, s, 99, at(4, 3, 0), api.Forgot{Kept: true, Generation: 1})
	stands(t, s, 3, []int{0, 0, 0, 0}, nil)
	if s.Len() != 4 {
		t.Errorf("Len: %d", s.Len())
	}
}
