package memo_test

import (
	"math"
	"slices"
	"testing"

	"convoy/api"
	"convoy/memo"
)

// ask is Look or Tell.
type ask struct {
	name string
	do   func(m *memo.Memo, now int64, k api.Key) (api.Seen, api.Errno)
	uses bool
}

// asks is both, as they differ in what they use alone.
var asks = []ask{{"Look", (*memo.Memo).Look, false}, {"Tell", (*memo.Memo).Tell, true}}

// seen is how an entry is that is there.
func seen(how int, age int64, o api.Outcome) api.Seen {
	return api.Seen{How: how, Age: age, Outcome: o}
}

// sees holds Look, on a clone, and then Tell against how an entry is.
func sees(t *testing.T, m *memo.Memo, now int64, k api.Key, want api.Seen) {
	t.Helper()
	for _, a := range asks {
		clone := m.Clone()
		if got, err := a.do(clone, now, k); got != want || err != api.OK {
			t.Fatalf("%s(%d, %v): %+v, %d, not %+v", a.name, now, k, got, err, want)
		}
		if clone.Now() != now {
			t.Fatalf("%s(%d, %v): the time is %d", a.name, now, k, clone.Now())
		}
	}
}

// timed is a configuration with these times, and room for 3.
func timed(ttl, negative, stale int64) api.Config {
	return api.Config{TTL: ttl, Negative: negative, Stale: stale, Entries: 3, Flight: 1, Batch: 1}
}

// TestValueAges: a value is fresh below TTL, stale below TTL and Stale, and old then (10.2).
func TestValueAges(t *testing.T) {
	for _, ttl := range []int64{1, 2, 5, 100} {
		for _, stale := range []int64{0, 1, 2, 3, 100} {
			for _, at := range []int64{0, 1, 10, maxTime - 300} {
				m := of(t, timed(ttl, 1000, stale), at, kept("a", value(-7), at))
				for age := range int64(210) {
					how := api.SeenOld
					if age < ttl {
						how = api.SeenFresh
					} else if age < ttl+stale {
						how = api.SeenStale
					}
					sees(t, m, at+age, named("a"), seen(how, age, value(-7)))
				}
			}
		}
	}
}

// TestFailureAges: a failure is fresh below Negative, and old then; it is never stale (10.2).
func TestFailureAges(t *testing.T) {
	for _, negative := range []int64{1, 2, 5, 100} {
		for _, stale := range []int64{0, 1, 1000, most} {
			for _, o := range []api.Outcome{load(3), failure(api.FailPanic, -1, 9)} {
				m := of(t, timed(1000, negative, stale), 10, kept("a", o, 10))
				for age := range int64(110) {
					how := api.SeenOld
					if age < negative {
						how = api.SeenFresh
					}
					sees(t, m, 10+age, named("a"), seen(how, age, o))
				}
			}
		}
	}
}

// TestGreatAges: times as great as they may be, and their sum, are meant without any bound (10.2).
func TestGreatAges(t *testing.T) {
	for _, step := range []struct {
		ttl, stale int64
		age        int64
		how        int
	}{
		{most, 0, 0, api.SeenFresh}, {most, 0, maxTime, api.SeenFresh}, {most, most, maxTime, api.SeenFresh},
		{1, most, 0, api.SeenFresh}, {1, most, 1, api.SeenStale}, {1, most, maxTime, api.SeenStale},
		{maxTime, 0, maxTime - 1, api.SeenFresh}, {maxTime, 0, maxTime, api.SeenOld}, {maxTime, 1, maxTime, api.SeenStale},
		{maxTime, most, maxTime, api.SeenStale}, {maxTime + 1, most, maxTime, api.SeenFresh},
		{maxTime / 2, maxTime / 2, maxTime/2 - 1, api.SeenFresh}, {maxTime / 2, maxTime / 2, maxTime / 2, api.SeenStale},
		{maxTime / 2, maxTime / 2, maxTime - 1, api.SeenStale}, {maxTime / 2, maxTime / 2, maxTime, api.SeenOld},
		{maxTime / 2, maxTime/2 + 1, maxTime, api.SeenStale}, {maxTime, maxTime, maxTime, api.SeenStale},
		{1, maxTime - 1, maxTime - 1, api.SeenStale}, {1, maxTime - 1, maxTime, api.SeenOld}, {1, maxTime, maxTime, api.SeenStale},
		{2, most - 1, maxTime, api.SeenStale}, {2, most, maxTime, api.SeenStale}, {1, 0, 0, api.SeenFresh}, {1, 0, 1, api.SeenOld}, {1, 0, maxTime, api.SeenOld},
	} {
		m := of(t, timed(step.ttl, 0, step.stale), 0, kept("a", value(3), 0))
		sees(t, m, step.age, named("a"), seen(step.how, step.age, value(3)))
		at := maxTime - step.age
		m = of(t, timed(step.ttl, 0, step.stale), at, kept("a", value(3), at))
		sees(t, m, maxTime, named("a"), seen(step.how, step.age, value(3)))
	}
	for _, step := range []struct {
		negative, age int64
		how           int
	}{
		{most, maxTime, api.SeenFresh}, {maxTime + 1, maxTime, api.SeenFresh}, {maxTime, maxTime - 1, api.SeenFresh},
		{maxTime, maxTime, api.SeenOld}, {1, 1, api.SeenOld}, {1, maxTime, api.SeenOld},
	} {
		m := of(t, timed(most, step.negative, most), 0, kept("a", load(3), 0))
		sees(t, m, step.age, named("a"), seen(step.how, step.age, load(3)))
	}
}

// TestZeroOutcome: a value of 0 is kept, and told, as others are (10.2).
func TestZeroOutcome(t *testing.T) {
	m := fresh(t, usual)
	keep(t, m, 0, api.Key{}, value(0))
	same(t, m, usual, 0, api.Kept{})
	sees(t, m, 0, api.Key{}, seen(api.SeenFresh, 0, value(0)))
	sees(t, m, 5, api.Key{}, seen(api.SeenStale, 5, value(0)))
	sees(t, m, 8, api.Key{}, seen(api.SeenOld, 8, value(0)))
}

// TestSeenNone: of a key of which nothing is kept all is 0, and the time goes on (10.2).
func TestSeenNone(t *testing.T) {
	for _, k := range slices.Concat(others, []api.Key{{}, named(long(64)), {Space: math.MaxUint16, Name: long(64)}}) {
		for _, a := range asks {
			m := fresh(t, usual)
			if got, err := a.do(m, 7, k); got != (api.Seen{}) || err != api.OK {
				t.Errorf("%s(7, %v): %+v, %d", a.name, k, got, err)
			}
			same(t, m, usual, 7)
			l := keptValues("abcd", 5)
			m = of(t, usual, 8, l...)
			if got, err := a.do(m, 9, k); got != (api.Seen{}) || err != api.OK {
				t.Errorf("%s(9, %v): %+v, %d", a.name, k, got, err)
			}
			same(t, m, usual, 9, l...)
		}
	}
}

// TestSeenNoneOfGone: what went is none: dropped, swept, over the bound (10.2, 10.4).
func TestSeenNoneOfGone(t *testing.T) {
	m := of(t, usual, 10, keptValues("abcd", 4)...)
	m.Drop(named("c"))
	keep(t, m, 10, named("e"), value(1))
	keep(t, m, 10, named("f"), value(1), named("a"))
	m.Sweep(13)
	for _, k := range keys("abc") {
		sees(t, m, 13, k, api.Seen{})
	}
	sees(t, m, 13, named("d"), seen(api.SeenStale, 6, value('d')))
}

// TestUsesByAsking: Tell uses what is fresh or stale; Tell of an old one, and Look, use nothing (10.2).
func TestUsesByAsking(t *testing.T) {
	entries := []api.Kept{
		kept("a", value(1), 12), kept("b", value(2), 15), kept("c", load(3), 18), kept("d", load(4), 19),
		kept("e", value(5), 20), kept("f", value(6), 16), kept("g", value(7), 13),
	}
	hows := map[string]int{
		"a": api.SeenOld, "b": api.SeenStale, "c": api.SeenOld, "d": api.SeenFresh,
		"e": api.SeenFresh, "f": api.SeenFresh, "g": api.SeenStale,
	}
	c := usual
	c.Entries = 7
	for i, entry := range entries {
		for _, a := range asks {
			m := of(t, c, 20, entries...)
			how := hows[entry.Key.Name]
			for range 2 {
				if got, err := a.do(m, 20, entry.Key); got != seen(how, 20-entry.At, entry.Outcome) || err != api.OK {
					t.Errorf("%s(20, %v): %+v, %d, not %d", a.name, entry.Key, got, err, how)
				}
			}
			want := entries
			if a.uses && how != api.SeenOld {
				want = slices.Concat(entries[:i], entries[i+1:], entries[i:i+1])
			}
			same(t, m, c, 20, want...)
			keep(t, m, 20, named("h"), value(1), want[0].Key)
		}
	}
}

// TestToldIsNotKeptAnew: what is told keeps its tick (10.2).
func TestToldIsNotKeptAnew(t *testing.T) {
	m := of(t, usual, 10, kept("a", value(7), 10))
	for age := range int64(12) {
		how := api.SeenOld
		if age < 5 {
			how = api.SeenFresh
		} else if age < 8 {
			how = api.SeenStale
		}
		if got, err := m.Tell(10+age, named("a")); got != seen(how, age, value(7)) || err != api.OK {
			t.Errorf("Tell(%d, a): %+v, %d", 10+age, got, err)
		}
		same(t, m, usual, 10+age, kept("a", value(7), 10))
	}
}

// TestAskTicks: which ticks Look and Tell take (10.2).
func TestAskTicks(t *testing.T) {
	l := keptValues("ab", 3)
	for _, a := range asks {
		for _, k := range slices.Concat(keys("abc"), noKeys) {
			m := of(t, usual, 6, l...)
			for _, now := range noTicks {
				if got, err := a.do(m, now, k); got != (api.Seen{}) || err != api.ErrTick {
					t.Errorf("%s(%d, %v): %+v, %d", a.name, now, k, got, err)
				}
			}
			for _, now := range []int64{0, 1, 4, 5} {
				if got, err := a.do(m, now, k); got != (api.Seen{}) || err != api.ErrBack {
					t.Errorf("%s(%d, %v): %+v, %d", a.name, now, k, got, err)
				}
			}
			same(t, m, usual, 6, l...)
		}
	}
}

// TestAskTime: the time goes on with each tick that is taken, and stays at one that is the same (10.2).
func TestAskTime(t *testing.T) {
	for _, a := range asks {
		m := fresh(t, usual)
		for _, now := range []int64{0, 0, 1, 1, 5, 100, 100, maxTime - 1, maxTime, maxTime} {
			if got, err := a.do(m, now, named("a")); got != (api.Seen{}) || err != api.OK {
				t.Errorf("%s(%d): %+v, %d", a.name, now, got, err)
			}
			same(t, m, usual, now)
			if now == 0 {
				continue
			}
			if got, err := a.do(m, now-1, named("a")); got != (api.Seen{}) || err != api.ErrBack {
				t.Errorf("%s(%d) behind %d: %+v, %d", a.name, now-1, now, got, err)
			}
			same(t, m, usual, now)
		}
	}
}

// TestAskWrongKey: a key that may not be is told behind the tick's errors, and the time stays (10.2).
func TestAskWrongKey(t *testing.T) {
	l := keptValues("ab", 3)
	for _, a := range asks {
		for _, k := range noKeys {
			m := of(t, usual, 6, l...)
			for _, now := range []int64{6, 7, 100, maxTime} {
				if got, err := a.do(m, now, k); got != (api.Seen{}) || err != api.ErrKey {
					t.Errorf("%s(%d) of %d bytes: %+v, %d", a.name, now, len(k.Name), got, err)
				}
				same(t, m, usual, 6, l...)
			}
		}
	}
}

// TestNil: what a nil memo answers, ahead of all else (10.5).
func TestNil(t *testing.T) {
	var m *memo.Memo
	for range 2 {
		for _, k := range slices.Concat(keys("ab"), []api.Key{{}}, noKeys) {
			for _, now := range append([]int64{0, 1, maxTime}, noTicks...) {
				for _, a := range asks {
					if got, err := a.do(m, now, k); got != (api.Seen{}) || err != api.ErrConfig {
						t.Errorf("%s(%d, %v): %+v, %d", a.name, now, k, got, err)
					}
				}
				for _, o := range append([]api.Outcome{value(0), value(1), load(1), failure(api.FailBusy, 0, 0)}, noOutcomes...) {
					if ok, gone, err := m.Keep(now, k, o); ok || len(gone) != 0 || err != api.ErrConfig {
						t.Errorf("Keep(%d, %v, %v): %t, %v, %d", now, k, o, ok, gone, err)
					}
				}
				if gone, err := m.Sweep(now); len(gone) != 0 || err != api.ErrConfig {
					t.Errorf("Sweep(%d): %v, %d", now, gone, err)
				}
			}
			if m.Drop(k) {
				t.Errorf("Drop(%v): true", k)
			}
		}
		if clone := m.Clone(); clone != nil {
			t.Errorf("Clone: %v", clone)
		}
		same(t, m, api.Config{}, 0)
	}
}
