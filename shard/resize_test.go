package shard_test

import (
	"fmt"
	"slices"
	"testing"

	"convoy/api"
	"convoy/shard"
)

// resize makes other shards, and holds the keys that went against those that should.
func resize(t *testing.T, s *shard.Shards, now int64, n int, want ...api.Key) *shard.Shards {
	t.Helper()
	other, gone, err := s.Resize(now, n)
	if other == nil || !slices.Equal(gone, want) || err != api.OK {
		t.Fatalf("Resize(%d, %d): %v, %v, %d, not %v", now, n, other, gone, err, want)
	}
	if other.Len() != n || other == s {
		t.Fatalf("Resize(%d, %d): Len %d", now, n, other.Len())
	}
	return other
}

// noResize looks that there are no other shards of some sizes, with an error.
func noResize(t *testing.T, s *shard.Shards, want api.Errno, now int64, sizes ...int) {
	t.Helper()
	for _, n := range sizes {
		if other, gone, err := s.Resize(now, n); other != nil || len(gone) != 0 || err != want {
			t.Fatalf("Resize(%d, %d): %v, %v, %d, not %d", now, n, other, gone, err, want)
		}
	}
}

// kept is an entry.
func kept(k api.Key, o api.Outcome, at int64) api.Kept { return api.Kept{Key: k, Outcome: o, At: at} }

// keeps holds the entries of the group of a place against what they should be.
func keeps(t *testing.T, s *shard.Shards, place int, want ...api.Kept) {
	t.Helper()
	if got := s.Group(place).Entries(); !slices.Equal(got, want) {
		t.Fatalf("the entries of the group %d: %v, not %v", place, got, want)
	}
}

// wide is a configuration that keeps long, and so many.
func wide(entries int) api.Config {
	return api.Config{TTL: 100, Negative: 50, Stale: 10, Entries: entries, Flight: 4, Batch: 1}
}

// TestResizeWrong: ticks that may not be or have been, then sizes that may not be, then runs in progress (18.3, R2).
func TestResizeWrong(t *testing.T) {
	idle, moving := fresh(t, 2, usual), waiting(t)
	keep(t, idle, 5, at(2, 1, 0), value(7))
	send(t, moving, 5)
	sizes := append([]int{1, 2, 64}, noSizes...)
	for _, s := range []*shard.Shards{idle, moving} {
		was := sayAll(s)
		for _, now := range noTicks {
			noResize(t, s, api.ErrTick, now, sizes...)
		}
		for _, now := range []int64{0, 4} {
			noResize(t, s, api.ErrBack, now, sizes...)
		}
		for _, now := range []int64{5, 6, last} {
			noResize(t, s, api.ErrArg, now, noSizes...)
		}
		if got := sayAll(s); got != was {
			t.Fatalf("errors changed %s to %s", was, got)
		}
	}
	for _, now := range []int64{5, 6, last} {
		noResize(t, moving, api.ErrMoving, now, 1, 2, 3, 64)
	}
}

// TestResizeMoving: a run that is led, left, forgotten, gathers or is a refresh is in progress, in whichever group; one that ended is not (18.3).
func TestResizeMoving(t *testing.T) {
	for place := range 3 {
		k, run := at(3, place, 0), place+1
		led := func(c api.Config) *shard.Shards {
			s := fresh(t, 3, c)
			s.Join(0, k, 1, 0)
			return s
		}
		left, forgotten, refresh := led(usual), led(usual), led(usual)
		left.Leave(0, 1)
		forgotten.Forget(0, k)
		refresh.End(0, run, value(7))
		for _, s := range []*shard.Shards{led(usual), left, forgotten, led(gathering(5, 10))} {
			noResize(t, s, api.ErrMoving, 1, 1, 3, 64)
			s.End(1, run, failure(api.FailAbort, 0, run))
			stands(t, resize(t, s, 1, 3), 0, []int{0, 0, 0}, nil)
		}
		join(t, refresh, 5, k, 1, 0, staleLed(3+run, value(7), 3+run))
		noResize(t, refresh, api.ErrMoving, 5, 1, 3, 64)
		end(t, refresh, 5, 3+run, load(1), api.Done{Run: api.Run{Run: 3 + run, Key: k, Refresh: true}, Current: true})
		stands(t, resize(t, refresh, 5, 3), 1, []int{0, 0, 0}, nil)
	}
}

// TestResizeEmpty: shards without entries are others without entries, of every size, with the new time (18.3).
func TestResizeEmpty(t *testing.T) {
	for _, n := range []int{1, 2, 64} {
		for _, m := range []int{1, 2, 3, 63, 64} {
			for _, now := range []int64{0, 5, last} {
				for _, c := range []api.Config{usual, least, greatest} {
					s := resize(t, fresh(t, n, c), now, m)
					stands(t, s, 0, make([]int, m), nil)
					next(t, s, -1)
					if timeOf(s) != now {
						t.Fatalf("the new time: %d, not %d", timeOf(s), now)
					}
					for place := range m {
						if g := s.Group(place); g.Config() != c || g.Now() != now || len(g.Entries()) != 0 {
							t.Fatalf("the group %d: %s", place, say(g))
						}
					}
				}
			}
		}
	}
}

// TestResizeFewer: two groups' entries are one's: those of the first ahead, in each the one that was used the longest time ago first, with their ticks (18.3).
func TestResizeFewer(t *testing.T) {
	s := fresh(t, 2, wide(4))
	a, b, c, d := at(2, 0, 0), at(2, 0, 1), at(2, 1, 0), at(2, 1, 1)
	keep(t, s, 1, c, value(3))
	keep(t, s, 2, a, value(1))
	keep(t, s, 3, d, load(4))
	keep(t, s, 4, b, value(2))
	join(t, s, 5, a, 1, 0, hit(value(1)))
	one := resize(t, s, 9, 1)
	keeps(t, one, 0, kept(b, value(2), 4), kept(a, value(1), 2), kept(c, value(3), 1), kept(d, load(4), 3))
	stands(t, one, 4, []int{0}, nil)
	// Their age is by the ticks that they had.
	join(t, one, 52, d, 1, 0, hit(load(4)))
	join(t, one, 100, c, 1, 0, hit(value(3)))
	join(t, one, 101, c, 1, 0, staleLed(1, value(3), 1))
	join(t, one, 101, a, 1, 0, hit(value(1)))
	join(t, one, 101, d, 1, 0, led(2, 2))
}

// TestResizeMore: one group's entries are in the places that their keys have among more, in the order that they had (18.3).
func TestResizeMore(t *testing.T) {
	for _, m := range []int{2, 3, 5, 64} {
		s := fresh(t, 1, wide(200))
		var keys []api.Key
		for i := range 150 {
			k := at(1, 0, i)
			keys = append(keys, k)
			keep(t, s, int64(i/10), k, value(int64(i)))
		}
		// Some are used anew, and stand behind the others then.
		for i := 0; i < 150; i += 7 {
			join(t, s, 20, keys[i], 1, 0, hit(value(int64(i))))
		}
		all := s.Group(0).Entries()
		other := resize(t, s, 20, m)
		for place := range m {
			var want []api.Kept
			for _, e := range all {
				if placeOf(e.Key, m) == place {
					want = append(want, e)
				}
			}
			keeps(t, other, place, want...)
		}
		if other.Entries() != 150 {
			t.Fatalf("Entries: %d", other.Entries())
		}
	}
}

// TestResizeSame: to as many, all entries stay where they were (18.3).
func TestResizeSame(t *testing.T) {
	for _, n := range []int{1, 2, 3, 64} {
		s := fresh(t, n, wide(3))
		for place := range n {
			for i := range 3 {
				keep(t, s, 1, at(n, place, i), value(int64(i)))
			}
		}
		other := resize(t, s, 1, n)
		for place := range n {
			var want []api.Kept
			for i := range 3 {
				want = append(want, kept(at(n, place, i), value(int64(i)), 1))
			}
			keeps(t, other, place, want...)
		}
	}
}

// TestResizeOverFewer: where a new group has more than Entries, those that came first go, and are told (18.3).
func TestResizeOverFewer(t *testing.T) {
	for entries := 1; entries <= 5; entries++ {
		s := fresh(t, 4, wide(entries))
		for i := range entries {
			for place := range 4 {
				keep(t, s, int64(i), at(4, place, i), value(int64(i)))
			}
		}
		var came [2][]api.Kept // by their new places, as they come
		for place := range 4 {
			// The first one of each group is used last.
			join(t, s, int64(entries), at(4, place, 0), 1, 0, hit(value(0)))
			for i := range entries {
				nth := (i + 1) % entries
				came[place/2] = append(came[place/2], kept(at(4, place, nth), value(int64(nth)), int64(nth)))
			}
		}
		var gone []api.Key
		for _, l := range came {
			for _, e := range l[:entries] {
				gone = append(gone, e.Key)
			}
		}
		two := resize(t, s, 9, 2, gone...)
		for place, l := range came {
			keeps(t, two, place, l[entries:]...)
		}
		stands(t, two, 2*entries, []int{0, 0}, nil)
	}
}

// TestResizeOverMore: more groups may have too many, too: the middle one of three takes from both of two (18.3).
func TestResizeOverMore(t *testing.T) {
	s := fresh(t, 2, wide(3))
	first := []api.Key{atBoth(2, 0, 3, 1, 0), atBoth(2, 0, 3, 1, 1)}
	second := []api.Key{atBoth(2, 1, 3, 1, 0), atBoth(2, 1, 3, 1, 1), atBoth(2, 1, 3, 2, 0)}
	low := atBoth(2, 0, 3, 0, 0)
	for i, k := range []api.Key{second[2], second[0], first[1], low, first[0], second[1]} {
		keep(t, s, int64(i), k, value(int64(i)))
	}
	three := resize(t, s, 7, 3, first[1])
	keeps(t, three, 0, kept(low, value(3), 3))
	keeps(t, three, 1, kept(first[0], value(4), 4), kept(second[0], value(1), 1), kept(second[1], value(5), 5))
	keeps(t, three, 2, kept(second[2], value(0), 0))
}

// TestResizeGoneOrder: the keys that go are told new group by new group, though they came from old ones in another order (18.3).
func TestResizeGoneOrder(t *testing.T) {
	s := fresh(t, 3, wide(2))
	// Among two, the middle one's keys are in both places.
	old := [][]api.Key{
		{at(3, 0, 0), at(3, 0, 1)},
		{atBoth(3, 1, 2, 1, 0), atBoth(3, 1, 2, 0, 0)},
		{at(3, 2, 0), at(3, 2, 1)},
	}
	for _, l := range old {
		for _, k := range l {
			keep(t, s, 0, k, value(1))
		}
	}
	two := resize(t, s, 0, 2, old[0][0], old[1][0])
	keeps(t, two, 0, kept(old[0][1], value(1), 0), kept(old[1][1], value(1), 0))
	keeps(t, two, 1, kept(old[2][0], value(1), 0), kept(old[2][1], value(1), 0))
	resize(t, s, 0, 1, old[0][0], old[0][1], old[1][0], old[1][1])
}

// TestResizeNotTaken: generations, cancelled tokens, what gathers, and the runs' numbers are not taken over (18.3).
func TestResizeNotTaken(t *testing.T) {
	s := fresh(t, 2, gathering(5, 10))
	k := at(2, 1, 0)
	forget(t, s, 0, k, api.Forgot{Generation: 1})
	join(t, s, 0, k, 1, 7, led(2))
	end(t, s, 0, 2, value(7), api.Done{Run: api.Run{Run: 2, Key: k, Generation: 1}, Told: told(value(7), 1), Current: true, Kept: true})
	cancel(t, s, 0, 7)
	next(t, s, 10)
	other := resize(t, s, 3, 2)
	next(t, other, -1)
	send(t, other, 20)
	join(t, other, 20, k, 1, 7, led(2))
	forget(t, other, 20, k, api.Forgot{Kept: true, Generation: 1, Run: 2})
	// The old ones have all that still, and their time.
	next(t, s, 10)
	noJoin(t, s, api.ErrGone, 0, k, 1, 7)
	forget(t, s, 0, k, api.Forgot{Kept: true, Generation: 2})
	send(t, s, 10, []int{2})
}

// TestResizeTime: the new ones take no tick below the one that was handed in, in no group; the old ones stay as they are, their time too (18.3).
func TestResizeTime(t *testing.T) {
	for _, n := range []int{1, 2, 3} {
		s := fresh(t, 2, usual)
		keep(t, s, 4, at(2, 0, 0), value(7))
		was := sayAll(s)
		other := resize(t, s, 9, n)
		if got := sayAll(s); got != was {
			t.Fatalf("the old ones changed from %s to %s", was, got)
		}
		for place := range n {
			noJoin(t, other, api.ErrBack, 8, at(n, place, 1), 1, 0)
			if got := other.Group(place).Now(); got != 9 {
				t.Fatalf("the time of the group %d: %d", place, got)
			}
		}
		noResize(t, other, api.ErrBack, 8, 2)
		join(t, other, 9, at(n, n-1, 1), 1, 0, led(n, n))
		join(t, s, 4, at(2, 1, 0), 1, 0, led(2, 2))
	}
}

// TestResizeApart: neither the old ones nor the new ones see what is done with the others behind it, and several of one are apart, too (18.3, R4).
func TestResizeApart(t *testing.T) {
	for _, m := range []int{1, 2, 3} {
		s := fresh(t, 2, wide(3))
		for place := range 2 {
			for i := range 2 {
				keep(t, s, 1, at(2, place, i), value(int64(10*place+i)))
			}
		}
		first, gone, _ := s.Resize(1, m)
		second, _, _ := s.Resize(1, m)
		old, begun := sayAll(s), sayAll(second)
		if sayAll(first) != begun {
			t.Fatalf("two of one are unlike: %s, %s", sayAll(first), begun)
		}
		spoil(gone, badKey)
		ruin(first)
		if sayAll(s) != old || sayAll(second) != begun {
			t.Fatalf("the old ones, or others, changed by the new ones: %s, %s", sayAll(s), sayAll(second))
		}
		ruin(s)
		if sayAll(second) != begun {
			t.Fatalf("the new ones changed by the old ones: %s, not %s", sayAll(second), begun)
		}
	}
}

// TestResizeThereAndBack: with room enough, all entries come back to where they were, and of each old group in the order that it had, if they went to fewer groups each of which takes whole ones (18.3).
func TestResizeThereAndBack(t *testing.T) {
	s := fresh(t, 8, wide(100))
	for i := range 80 {
		keep(t, s, int64(i/4), at(1, 0, i), value(int64(i)))
	}
	for _, m := range []int{1, 2, 4, 8} {
		back := resize(t, resize(t, s, 20, m), 20, 8)
		for place := range 8 {
			keeps(t, back, place, s.Group(place).Entries()...)
		}
	}
	// To more and back: each key is there, with its outcome and tick.
	back := resize(t, resize(t, s, 20, 64), 20, 8)
	for place := range 8 {
		got, want := back.Group(place).Entries(), s.Group(place).Entries()
		sortKept(got)
		sortKept(want)
		if !slices.Equal(got, want) {
			t.Fatalf("the group %d: %v, not %v", place, got, want)
		}
	}
}

func sortKept(l []api.Kept) {
	slices.SortFunc(l, func(x, y api.Kept) int {
		return slices.Compare([]byte(fmt.Sprint(x)), []byte(fmt.Sprint(y)))
	})
}

// TestResizeNothingKept: by a configuration that keeps nothing there is nothing to take over (18.3).
func TestResizeNothingKept(t *testing.T) {
	for _, c := range []api.Config{wide(0), {Entries: 9, Flight: 4, Batch: 1}} {
		s := fresh(t, 2, c)
		join(t, s, 0, at(2, 0, 0), 1, 0, led(1, 1))
		end(t, s, 0, 1, value(7), api.Done{Run: api.Run{Run: 1, Key: at(2, 0, 0)}, Told: told(value(7), 1), Current: true})
		stands(t, resize(t, s, 0, 3), 0, []int{0, 0, 0}, nil)
	}
}

// TestResizeMany: as many entries as there may be in the greatest shards go to one group, and all but its last ones are told (18.3).
func TestResizeMany(t *testing.T) {
	const each = 300
	s := fresh(t, 64, wide(each))
	for i := range 64 * each * 2 {
		k := api.Key{Space: uint16(i), Name: "m"}
		j, err := s.Join(0, k, 1, 0)
		if err != api.OK {
			t.Fatalf("Join(%d): %d", i, err)
		}
		s.End(0, j.Run, value(1))
	}
	before := s.Entries()
	other, gone, err := s.Resize(0, 1)
	if err != api.OK || other.Entries() != each || len(gone) != before-each || before < 60*each {
		t.Fatalf("%d entries, then %d, and %d went, %d", before, other.Entries(), len(gone), err)
	}
	if !slices.Equal(other.Group(0).Entries(), s.Group(63).Entries()) {
		t.Fatal("the last ones are not those of the last group")
	}
}
