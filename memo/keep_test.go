package memo_test

import (
	"math"
	"slices"
	"testing"

	"convoy/api"
	"convoy/memo"
)

// TestKeep: what is kept is there, with the tick, and was used last (10.3).
func TestKeep(t *testing.T) {
	m := fresh(t, usual)
	var want []api.Kept
	for i, step := range []struct {
		k api.Key
		o api.Outcome
	}{
		{named("a"), value(7)}, {api.Key{}, value(0)}, {api.Key{Space: math.MaxUint16, Name: long(64)}, load(-3)},
		{api.Key{Space: 1}, failure(api.FailPanic, math.MinInt, math.MaxInt)},
	} {
		now := int64(3 * i)
		keep(t, m, now, step.k, step.o)
		want = append(want, api.Kept{Key: step.k, Outcome: step.o, At: now})
		same(t, m, usual, now, want...)
	}
	c := usual
	c.Entries = 1
	for _, v := range []int64{1, -1, math.MinInt64, math.MaxInt64} {
		for _, now := range []int64{0, maxTime} {
			m = fresh(t, c)
			keep(t, m, now, named("a"), value(v))
			same(t, m, c, now, kept("a", value(v), now))
		}
	}
}

// TestKeepInPlace: what is kept stands in the place of what was there, was used last, and has nothing go (10.3).
func TestKeepInPlace(t *testing.T) {
	for _, entries := range []int{3, 4} { // full, and with room
		c := usual
		c.Entries = entries
		for i, k := range keys("abc") {
			for _, o := range []api.Outcome{value('a' + int64(i)), value(9), value(0), load(4), failure(api.FailPanic, 4, 4)} {
				for _, now := range []int64{5, 6, 100} {
					l := keptValues("abc", 3)
					m := of(t, c, 5, l...)
					keep(t, m, now, k, o)
					same(t, m, c, now, append(slices.Delete(l, i, i+1), api.Kept{Key: k, Outcome: o, At: now})...)
				}
			}
		}
	}
	m := of(t, usual, 9, kept("a", load(1), 8), kept("b", value(1), 0))
	keep(t, m, 9, named("a"), value(2))
	keep(t, m, 20, named("b"), load(2))
	same(t, m, usual, 20, kept("a", value(2), 9), kept("b", load(2), 20))
	sees(t, m, 20, named("a"), seen(api.SeenOld, 11, value(2)))
	sees(t, m, 21, named("b"), seen(api.SeenFresh, 1, load(2)))
}

// TestKeepOver: at Entries, the one goes that was used the longest time ago: kept or told (10.3).
func TestKeepOver(t *testing.T) {
	m := of(t, usual, 7, keptValues("abcd", 4)...)
	keep(t, m, 7, named("e"), value(1), named("a"))
	m.Tell(7, named("b"))
	m.Look(7, named("c"))
	m.Get(named("c"))
	m.All()
	keep(t, m, 7, named("f"), load(1), named("c"))
	keep(t, m, 8, named("d"), value(2))
	keep(t, m, 8, named("a"), value(3), named("e"))
	same(t, m, usual, 8, kept("b", value('b'), 5), kept("f", load(1), 7), kept("d", value(2), 8), kept("a", value(3), 8))
	m.Drop(named("f"))
	keep(t, m, 8, named("g"), value(4))
	keep(t, m, 8, named("h"), value(5), named("b"))
	same(t, m, usual, 8, kept("d", value(2), 8), kept("a", value(3), 8), kept("g", value(4), 8), kept("h", value(5), 8))
}

// TestKeepOverOld: age has no part in who goes: neither an old one ahead of others, nor the one that was kept first (10.3).
func TestKeepOverOld(t *testing.T) {
	c := usual
	c.Entries = 2
	m := of(t, c, 10, kept("a", value(1), 10), kept("b", value(2), 0))
	keep(t, m, 10, named("c"), value(3), named("a"))
	same(t, m, c, 10, kept("b", value(2), 0), kept("c", value(3), 10))
	keep(t, m, 10, named("b"), value(4))
	keep(t, m, 10, named("d"), value(5), named("c"))
}

// TestKeepOfOne: with room for one, the one ahead goes (10.3).
func TestKeepOfOne(t *testing.T) {
	c := usual
	c.Entries = 1
	m := fresh(t, c)
	keep(t, m, 0, named("a"), value(1))
	keep(t, m, 0, named("a"), value(2))
	keep(t, m, 1, api.Key{}, value(3), named("a"))
	keep(t, m, 1, named("a"), load(4), api.Key{})
	same(t, m, c, 1, kept("a", load(4), 1))
}

// kinds is an outcome of each kind that may be.
var kinds = []api.Outcome{
	value(0), value(7), load(0), load(3), failure(api.FailPanic, 1, 1),
	failure(api.FailCancel, 0, 0), failure(api.FailBusy, 0, 0), failure(api.FailAbort, 0, 1), failure(api.FailAbort, 0, math.MaxInt),
}

// TestKeepWhich: a value is kept if TTL is above 0, a failure of a load or a panic if Negative is, nothing if Entries is 0 (10.3).
func TestKeepWhich(t *testing.T) {
	for _, ttl := range []int64{0, 1, most} {
		for _, negative := range []int64{0, 1, most} {
			for _, stale := range []int64{0, 1, most} {
				for _, entries := range []int{0, 1, maxEntries} {
					c := api.Config{TTL: ttl, Negative: negative, Stale: stale, Entries: entries, Flight: 1, Batch: 1}
					for _, o := range kinds {
						m := fresh(t, c)
						yes := ttl > 0
						if o.Fail.Kind != 0 {
							yes = negative > 0 && o.Fail.Kind <= 2
						}
						if yes && entries > 0 {
							keep(t, m, 3, named("a"), o)
							same(t, m, c, 3, kept("a", o, 3))
						} else {
							notKept(t, m, 3, named("a"), o)
							same(t, m, c, 3)
						}
					}
				}
			}
		}
	}
}

// TestNotKeptLeavesAll: what is not kept leaves what was there where it is, and uses nothing; the time goes on (10.3).
func TestNotKeptLeavesAll(t *testing.T) {
	never := kinds[5:]
	for _, k := range slices.Concat(keys("abcde"), []api.Key{{}}) {
		for _, o := range never {
			notKept(t, of(t, usual, 7, keptValues("abcd", 4)...), 9, k, o)
		}
		onlyValues := usual
		onlyValues.Negative = 0
		for _, o := range append(slices.Clone(never), load(1), failure(api.FailPanic, 1, 1)) {
			notKept(t, of(t, onlyValues, 7, keptValues("abcd", 4)...), 9, k, o)
		}
		onlyFailures := usual
		onlyFailures.TTL = 0
		for _, o := range append(slices.Clone(never), value(1), value(0)) {
			notKept(t, of(t, onlyFailures, 7, kept("a", load(1), 7), kept("b", load(2), 0)), 9, k, o)
		}
		nothing := usual
		nothing.Entries = 0
		for _, o := range kinds {
			notKept(t, of(t, nothing, 7), 9, k, o)
		}
	}
}

// TestKeepTicks: which ticks Keep takes, whatever stands behind them (10.3).
func TestKeepTicks(t *testing.T) {
	l := keptValues("ab", 3)
	m := of(t, usual, 6, l...)
	for _, k := range slices.Concat(keys("ac"), noKeys) {
		for _, o := range slices.Concat(kinds, noOutcomes) {
			for _, now := range noTicks {
				if ok, gone, err := m.Keep(now, k, o); ok || len(gone) != 0 || err != api.ErrTick {
					t.Errorf("Keep(%d, %v, %v): %t, %v, %d", now, k, o, ok, gone, err)
				}
			}
			for _, now := range []int64{0, 1, 4, 5} {
				if ok, gone, err := m.Keep(now, k, o); ok || len(gone) != 0 || err != api.ErrBack {
					t.Errorf("Keep(%d, %v, %v): %t, %v, %d", now, k, o, ok, gone, err)
				}
			}
		}
	}
	same(t, m, usual, 6, l...)
}

// TestKeepWrong: a key that may not be is told ahead of an outcome that may not, and both leave all as it was, the time too (10.3).
func TestKeepWrong(t *testing.T) {
	l := keptValues("abcd", 3)
	nothing := usual
	nothing.Entries = 0
	for _, m := range []*memo.Memo{of(t, usual, 6, l...), of(t, usual, 6, l[:2]...), of(t, nothing, 6)} {
		before := m.All()
		for _, now := range []int64{6, 7, 100, maxTime} {
			for _, k := range noKeys {
				for _, o := range slices.Concat(kinds, noOutcomes) {
					if ok, gone, err := m.Keep(now, k, o); ok || len(gone) != 0 || err != api.ErrKey {
						t.Errorf("Keep(%d, of %d bytes, %v): %t, %v, %d", now, len(k.Name), o, ok, gone, err)
					}
				}
			}
			for _, k := range keys("abcde") {
				for _, o := range noOutcomes {
					if ok, gone, err := m.Keep(now, k, o); ok || len(gone) != 0 || err != api.ErrFail {
						t.Errorf("Keep(%d, %v, %v): %t, %v, %d", now, k, o, ok, gone, err)
					}
				}
			}
			same(t, m, m.Config(), 6, before...)
		}
	}
}

// TestKeepTime: the time goes on with each tick that is taken (10.3).
func TestKeepTime(t *testing.T) {
	m := fresh(t, usual)
	for _, now := range []int64{0, 0, 1, 1, 5, 100, 100, maxTime - 1, maxTime, maxTime} {
		keep(t, m, now, named("a"), value(now))
		same(t, m, usual, now, kept("a", value(now), now))
		if now == 0 {
			continue
		}
		if ok, gone, err := m.Keep(now-1, named("b"), value(1)); ok || len(gone) != 0 || err != api.ErrBack {
			t.Errorf("Keep(%d) behind %d: %t, %v, %d", now-1, now, ok, gone, err)
		}
	}
}

// TestDrop: the entry of a key goes, wherever it stood, however old it is (10.4).
func TestDrop(t *testing.T) {
	for i, k := range keys("abcd") {
		for _, now := range []int64{7, 100} {
			l := keptValues("abcd", 4)
			m := of(t, usual, now, l...)
			if !m.Drop(k) {
				t.Fatalf("Drop(%v): false", k)
			}
			l = slices.Delete(l, i, i+1)
			same(t, m, usual, now, l...)
			if m.Drop(k) {
				t.Fatalf("Drop(%v) again: true", k)
			}
			same(t, m, usual, now, l...)
			sees(t, m, now, k, api.Seen{})
			keep(t, m, now, k, load(1))
			same(t, m, usual, now, append(l, api.Kept{Key: k, Outcome: load(1), At: now})...)
		}
	}
}

// TestDropNone: of a key of which nothing is kept nothing goes: never kept, over the bound, swept (10.4).
func TestDropNone(t *testing.T) {
	m := fresh(t, usual)
	for _, k := range slices.Concat(keys("ab"), others, noKeys, []api.Key{{}}) {
		if m.Drop(k) {
			t.Errorf("Drop(%v) of none: true", k)
		}
	}
	same(t, m, usual, 0)
	l := keptValues("abcd", 4)
	m = of(t, usual, 10, l...)
	keep(t, m, 10, named("e"), value(1), named("a"))
	m.Sweep(13)
	for _, k := range slices.Concat(keys("abf"), others, noKeys, []api.Key{{}}) {
		if m.Drop(k) {
			t.Errorf("Drop(%v): true", k)
		}
	}
	same(t, m, usual, 13, l[2], l[3], kept("e", value(1), 10))
}

// TestDropAll: what was emptied is as a new one, but for its time (10.4).
func TestDropAll(t *testing.T) {
	for _, way := range []string{"abcd", "dcba", "bdac"} {
		m := of(t, usual, 7, keptValues("abcd", 4)...)
		for _, k := range keys(way) {
			if !m.Drop(k) {
				t.Fatalf("Drop(%v): false", k)
			}
		}
		same(t, m, usual, 7)
		for _, k := range keys("cabd") {
			keep(t, m, 8, k, value(1))
		}
		keep(t, m, 8, named("e"), value(1), named("c"))
	}
}

// sweeps holds what Sweep tells against what should go.
func sweeps(t *testing.T, m *memo.Memo, now int64, gone ...api.Key) {
	t.Helper()
	if got, err := m.Sweep(now); !slices.Equal(got, gone) || err != api.OK {
		t.Fatalf("Sweep(%d): %v, %d, not %v", now, got, err, gone)
	}
}

// TestSweep: all that are old go, the one that was used the longest time ago first, and all else stays (10.4).
func TestSweep(t *testing.T) {
	c := usual
	c.Entries = 6
	l := []api.Kept{ // old from the ticks 18, 13, 20, 12, 18, 11 on
		kept("a", value(1), 10), kept("b", value(2), 5), kept("c", load(3), 18),
		kept("d", load(4), 10), kept("e", value(5), 10), kept("f", value(6), 3),
	}
	for _, step := range []struct {
		now        int64
		gone, left string
	}{
		{18, "abdef", "c"}, {19, "abdef", "c"}, {20, "abcdef", ""}, {maxTime, "abcdef", ""},
	} {
		m := of(t, c, 18, l...)
		sweeps(t, m, step.now, keys(step.gone)...)
		same(t, m, c, step.now, onlyOf(l, step.left)...)
		sweeps(t, m, step.now)
		same(t, m, c, step.now, onlyOf(l, step.left)...)
	}
	l[2].At = 10
	for _, step := range []struct {
		now        int64
		gone, left string
	}{
		{10, "", "abcdef"}, {11, "f", "abcde"}, {12, "cdf", "abe"}, {13, "bcdf", "ae"}, {17, "bcdf", "ae"}, {18, "abcdef", ""},
	} {
		m := of(t, c, 10, l...)
		sweeps(t, m, step.now, keys(step.gone)...)
		same(t, m, c, step.now, onlyOf(l, step.left)...)
	}
}

// onlyOf is the entries of the letters' keys, as they stand.
func onlyOf(l []api.Kept, letters string) []api.Kept {
	var of []api.Kept
	for _, entry := range l {
		if slices.Contains(keys(letters), entry.Key) {
			of = append(of, entry)
		}
	}
	return of
}

// TestSweepOrder: what goes is told as it was used, not as it was kept (10.4).
func TestSweepOrder(t *testing.T) {
	m := of(t, usual, 10, keptValues("abcd", 7)...)
	m.Tell(10, named("b"))
	m.Tell(10, named("a"))
	m.Look(10, named("c"))
	clone := m.Clone()
	sweeps(t, m, 100, keys("cdba")...)
	sweeps(t, clone, 16, keys("ba")...)
	same(t, clone, usual, 16, kept("c", value('c'), 9), kept("d", value('d'), 10))
	keep(t, clone, 16, named("e"), value(1))
	keep(t, clone, 16, named("f"), value(1))
	keep(t, clone, 16, named("g"), value(1), named("c"))
}

// TestSweepNone: of none, and of none that is old, nothing goes, and nothing is used (10.4).
func TestSweepNone(t *testing.T) {
	m := fresh(t, usual)
	sweeps(t, m, 0)
	sweeps(t, m, 9)
	same(t, m, usual, 9)
	l := []api.Kept{kept("b", value(1), 7), kept("a", load(2), 12), kept("c", value(3), 12)}
	m = of(t, usual, 12, l...)
	sweeps(t, m, 12)
	sweeps(t, m, 13)
	same(t, m, usual, 13, l...)
}

// TestSweepTicks: which ticks Sweep takes; an error leaves all as it was (10.4).
func TestSweepTicks(t *testing.T) {
	l := keptValues("abcd", 4)
	m := of(t, usual, 50, l...)
	for _, now := range noTicks {
		if gone, err := m.Sweep(now); len(gone) != 0 || err != api.ErrTick {
			t.Errorf("Sweep(%d): %v, %d", now, gone, err)
		}
	}
	for _, now := range []int64{0, 1, 48, 49} {
		if gone, err := m.Sweep(now); len(gone) != 0 || err != api.ErrBack {
			t.Errorf("Sweep(%d): %v, %d", now, gone, err)
		}
	}
	same(t, m, usual, 50, l...)
	sweeps(t, m, 50, keys("abcd")...)
	sweeps(t, m, 60)
	if gone, err := m.Sweep(59); len(gone) != 0 || err != api.ErrBack {
		t.Errorf("Sweep(59) behind 60: %v, %d", gone, err)
	}
	same(t, m, usual, 60)
}

// TestTimeIsOne: a tick that one call took is too late for none that is as late, and too early for all that are earlier (10.2 to 10.4).
func TestTimeIsOne(t *testing.T) {
	calls := []struct {
		name string
		do   func(m *memo.Memo, now int64) api.Errno
	}{
		{"Look", func(m *memo.Memo, now int64) api.Errno { _, err := m.Look(now, named("a")); return err }},
		{"Tell", func(m *memo.Memo, now int64) api.Errno { _, err := m.Tell(now, named("a")); return err }},
		{"Keep", func(m *memo.Memo, now int64) api.Errno { _, _, err := m.Keep(now, named("a"), value(1)); return err }},
		{"Keep of what is not kept", func(m *memo.Memo, now int64) api.Errno {
			_, _, err := m.Keep(now, named("a"), failure(api.FailBusy, 0, 0))
			return err
		}},
		{"Sweep", func(m *memo.Memo, now int64) api.Errno { _, err := m.Sweep(now); return err }},
	}
	for _, first := range calls {
		for _, second := range calls {
			m := fresh(t, usual)
			for _, step := range []struct {
				do        func(m *memo.Memo, now int64) api.Errno
				now, time int64
				err       api.Errno
			}{
				{first.do, 7, 7, api.OK}, {second.do, 6, 7, api.ErrBack}, {second.do, -1, 7, api.ErrTick}, {second.do, 7, 7, api.OK},
				{second.do, maxTime + 1, 7, api.ErrTick}, {second.do, 8, 8, api.OK}, {first.do, 7, 8, api.ErrBack}, {first.do, 0, 8, api.ErrBack},
			} {
				if err := step.do(m, step.now); err != step.err || m.Now() != step.time {
					t.Errorf("%s, %s: at %d %d, and the time is %d, not %d, %d", first.name, second.name, step.now, err, m.Now(), step.err, step.time)
				}
			}
		}
	}
}
