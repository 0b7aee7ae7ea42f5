package tally_test

import (
	"runtime"
	"slices"
	"strings"
	"testing"

	"convoy/api"
	"convoy/tally"
)

// some is events of which each call counts something.
func some() []api.Event {
	return newLots(77).list(60)
}

// TestHandedIn: events stay as they were, and what lies in the spare room behind them is none of them (R4, R5).
func TestHandedIn(t *testing.T) {
	room := some()
	was := slices.Clone(room)
	for n := range len(room) + 1 {
		alike(t, room[:n])
		if !slices.Equal(room, was) {
			t.Fatalf("of %d events some are changed", n)
		}
	}
	for n := range room {
		alike(t, append(slices.Clone(room[:n]), room[n:]...)[n:])
	}
}

// TestCountsHandedIn: counts are handed in by value, and stay as they were (R4).
func TestCountsHandedIn(t *testing.T) {
	one, other := newLots(5).counts(), newLots(6).counts()
	wasOne, wasOther := one, other
	tally.Add(one, other)
	tally.Quantile(one, 1, 2)
	same(t, "Add", one, wasOne)
	same(t, "Add", other, wasOther)
	x, y := filled(1, 2, 3), filled(4, 5, 6)
	tally.Merge(x, y)
	same(t, "Merge", x, filled(1, 2, 3))
	same(t, "Merge", y, filled(4, 5, 6))
}

// changed changes all of a list, its spare room too.
func changed[T comparable](l []T) {
	var none T
	room := l[:cap(l)]
	for n := range room {
		room[n] = none
	}
}

// TestHandedOut: what is handed out is new each time (R4, R5).
func TestHandedOut(t *testing.T) {
	l := some()
	for range 3 {
		alike(t, l)
		changed(tally.Keys(l))
		changed(tally.Loads(l))
		changed(ofBits(t, l, 3))
	}
	keys, loads, stretches := tally.Keys(l), tally.Loads(l), ofBits(t, l, 3)
	changed(tally.Keys(l))
	changed(tally.Loads(l))
	changed(ofBits(t, l, 3))
	list(t, "Keys", keys, plain(l).keys())
	list(t, "Loads", loads, plain(l).loads())
	list(t, "Stretches", stretches, plain(l).stretches(3))
}

// TestApart: what one call is handed is nothing to the next one (R5).
func TestApart(t *testing.T) {
	for seed := range int64(50) {
		alike(t, newLots(seed).list(20))
		same(t, "Of nothing", tally.Of(nil), api.Tally{})
		same(t, "Waits of nothing", tally.Waits([]api.Event{tell(5, 1, 1)}), [64]int{})
		same(t, "Lengths of nothing", tally.Lengths([]api.Event{end(5, 1)}), [64]int{})
	}
}

// TestNothingIsKept: behind a call there is no more than ahead of it (rule 8 of the language).
func TestNothingIsKept(t *testing.T) {
	var before, after runtime.MemStats
	runtime.GC()
	runtime.ReadMemStats(&before)
	for round := range 50 {
		var l []api.Event
		for n := range 500 {
			k := api.Key{Space: uint16(round), Name: strings.Repeat("n", 60+n%5)}
			l = append(l, of(k, begin(int64(n), n)), of(k, join(int64(n), n)), of(k, send(int64(n), n)), of(k, end(int64(n), n)), of(k, tell(int64(n), n, n)))
		}
		tally.Of(l)
		tally.Waits(l)
		tally.Lengths(l)
		tally.Keys(l)
		tally.Loads(l)
		tally.Stretches(l, 1)
		tally.Shared(l)
	}
	runtime.GC()
	runtime.ReadMemStats(&after)
	if grown := int64(after.HeapAlloc) - int64(before.HeapAlloc); grown > 400000 {
		t.Errorf("%d bytes are kept", grown)
	}
}

// TestMany: as many events as a trace may have, each run and caller of its own (26.1 to 26.3).
func TestMany(t *testing.T) {
	const runs = api.MaxEvents / 5
	var l []api.Event
	var waits [64]int
	for run := 1; run <= runs; run++ {
		at := int64(run)
		k := api.Key{Space: uint16(run), Name: strings.Repeat("k", run>>16)}
		l = append(l, of(k, begin(at, run)), of(k, join(at, run)), send(at, run))
	}
	for run := 1; run <= runs; run++ {
		at := int64(runs + 2*run)
		l = append(l, failing(1, end(at, run)), tell(at, run, run))
		bucket := 0
		for d := runs + run; d > 0; d /= 2 {
			bucket++
		}
		waits[bucket]++
	}
	same(t, "Of", tally.Of(l), api.Tally{Kinds: [12]int{1: runs, 2: runs, 3: runs, 4: runs, 5: runs}, Hows: [7]int{5: runs}, Ends: [6]int{1: runs}, Keys: runs, Most: runs})
	same(t, "Waits", tally.Waits(l), waits)
	same(t, "Lengths", tally.Lengths(l), waits)
	keys := tally.Keys(l)
	same(t, "how many keys", len(keys), runs)
	same(t, "the last key", keys[runs-1], api.KeyTally{Key: api.Key{Space: 65535, Name: strings.Repeat("k", runs>>16-1)}, Joins: 1, Begins: 1})
	same(t, "how many loads", len(tally.Loads(l)), runs)
	stretches := ofBits(t, l, 0)
	same(t, "how many stretches", len(stretches), 2*runs)
	same(t, "the last stretch", stretches[2*runs-1], api.Stretch{From: 3 * runs, Ends: 1})
	told, unlike := tally.Shared(l)
	same(t, "Shared", []int{told, unlike}, []int{runs, runs})
}
