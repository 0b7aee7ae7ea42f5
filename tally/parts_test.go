package tally_test

import (
	"math"
	"slices"
	"strings"
	"testing"

	"convoy/api"
	"convoy/tally"
)

// TestKeyCounts: what each event of a key counts for, and what does not (26.3).
func TestKeyCounts(t *testing.T) {
	ahead := of(a, by(5, join(0, 1)))
	for _, x := range []struct {
		what string
		e    api.Event
		want api.KeyTally
	}{
		{"a Join by no How", by(0, join(0, 1)), api.KeyTally{Joins: 2}},
		{"a hit", by(1, join(0, 1)), api.KeyTally{Joins: 2, Hits: 1}},
		{"a hit of a failure", failing(2, by(1, join(0, 1))), api.KeyTally{Joins: 2, Hits: 1}},
		{"a stale one", by(2, join(0, 1)), api.KeyTally{Joins: 2, Stales: 1}},
		{"joined", by(3, join(0, 1)), api.KeyTally{Joins: 2}},
		{"busy", by(4, join(0, 1)), api.KeyTally{Joins: 2}},
		{"led", by(5, join(0, 1)), api.KeyTally{Joins: 2}},
		{"cancelled", by(6, join(0, 1)), api.KeyTally{Joins: 2}},
		{"by 7", by(7, join(0, 1)), api.KeyTally{Joins: 2}},
		{"by -1", by(-1, join(0, 1)), api.KeyTally{Joins: 2}},
		{"by what is 1 in its lowest bits", by(1<<32+1, join(0, 1)), api.KeyTally{Joins: 2}},
		{"a Begin", begin(0, 1), api.KeyTally{Joins: 1, Begins: 1}},
		{"a Begin by 1", by(1, begin(0, 1)), api.KeyTally{Joins: 1, Begins: 1}},
		{"a Begin with a failure", failing(1, begin(0, 1)), api.KeyTally{Joins: 1, Begins: 1}},
		{"an End", end(0, 1), api.KeyTally{Joins: 1}},
		{"an End with a value", api.Event{Kind: 5, Outcome: api.Outcome{Value: 7}}, api.KeyTally{Joins: 1}},
		{"an End with a failure", failing(1, end(0, 1)), api.KeyTally{Joins: 1, Fails: 1}},
		{"an End with a panic", failing(2, end(0, 1)), api.KeyTally{Joins: 1, Fails: 1}},
		{"an End that was cancelled", failing(3, end(0, 1)), api.KeyTally{Joins: 1, Fails: 1}},
		{"an End that was busy", failing(4, end(0, 1)), api.KeyTally{Joins: 1, Fails: 1}},
		{"an End that was skipped", failing(5, by(1, end(0, 1))), api.KeyTally{Joins: 1, Fails: 1}},
		{"an End with a failure of a kind that is none", failing(6, end(0, 1)), api.KeyTally{Joins: 1, Fails: 1}},
		{"an End with a failure of a kind below 0", failing(-1, end(0, 1)), api.KeyTally{Joins: 1, Fails: 1}},
	} {
		x.want.Key = a
		list(t, x.what, tally.Keys([]api.Event{ahead, of(a, x.e)}), []api.KeyTally{x.want})
		list(t, x.what+" ahead", tally.Keys([]api.Event{of(a, x.e), ahead}), []api.KeyTally{x.want})
		list(t, x.what+" of another key", tally.Keys([]api.Event{ahead, of(c, x.e)})[:1], []api.KeyTally{{Key: a, Joins: 1}})
		if x.e.Kind != api.EventJoin {
			list(t, x.what+" of a key for which nobody asks", tally.Keys([]api.Event{of(c, x.e), ahead, of(b, x.e)}), []api.KeyTally{{Key: a, Joins: 1}})
			list(t, x.what+" alone", tally.Keys([]api.Event{of(a, x.e)}), nil)
		}
	}
	for _, kind := range []int{-1, 0, 3, 4, 6, 7, 8, 9, 10, 11, 12, 1<<32 + 1, 1<<32 + 2, 1<<32 + 5} {
		e := of(a, failing(1, by(1, api.Event{Kind: kind, Run: 1, Caller: 1})))
		list(t, "another kind", tally.Keys([]api.Event{e, ahead, e}), []api.KeyTally{{Key: a, Joins: 1}})
		list(t, "another kind alone", tally.Keys([]api.Event{e, e}), nil)
	}
}

// TestKeysInOrder: keys stand in their order, by space and then by name, whatever the order of their Joins (26.3).
func TestKeysInOrder(t *testing.T) {
	keys := []api.Key{{}, {Name: "\x00"}, {Name: "10"}, {Name: "9"}, {Name: "A"}, {Name: "a"}, {Name: "a\x00"}, {Name: "aa"}, {Name: "b"}, {Name: "\xff"}, {Name: "\xff" + strings.Repeat("k", 70)}, {Space: 1}, {Space: 1, Name: "a"}, {Space: 2, Name: "a"}, {Space: 255}, {Space: 256}, {Space: 65535}, {Space: 65535, Name: "a"}}
	l := newLots(5)
	for range 200 {
		var all []api.Event
		var want []api.KeyTally
		for n, k := range keys {
			if l.Intn(4) == 0 {
				all = append(all, of(k, begin(0, 1)))
				continue
			}
			for range n + 1 {
				all = append(all, of(k, join(0, 1)))
			}
			want = append(want, api.KeyTally{Key: k, Joins: n + 1})
		}
		l.Shuffle(len(all), func(n, m int) { all[n], all[m] = all[m], all[n] })
		list(t, "Keys", tally.Keys(all), want)
	}
}

// TestLoads: Sends that stand behind one another, of one tick and of rising runs, stretch by stretch (26.3).
func TestLoads(t *testing.T) {
	s := send
	other := api.Event{Kind: api.EventBegin, Run: 2}
	for _, x := range []struct {
		what string
		l    []api.Event
		want []int
	}{
		{"one", []api.Event{s(0, 1)}, []int{1}},
		{"two", []api.Event{s(0, 1), s(0, 2)}, []int{2}},
		{"many", []api.Event{s(5, 1), s(5, 2), s(5, 3), s(5, 7), s(5, 100)}, []int{5}},
		{"of another tick", []api.Event{s(0, 1), s(1, 2)}, []int{1, 1}},
		{"of a tick that goes back", []api.Event{s(1, 1), s(1, 2), s(0, 3), s(0, 4), s(0, 5)}, []int{2, 3}},
		{"of another tick, and back", []api.Event{s(1, 1), s(2, 2), s(1, 3)}, []int{1, 1, 1}},
		{"of the same run", []api.Event{s(0, 1), s(0, 1)}, []int{1, 1}},
		{"of the same run behind others", []api.Event{s(0, 1), s(0, 2), s(0, 2), s(0, 3), s(0, 4)}, []int{2, 3}},
		{"of runs that fall", []api.Event{s(0, 2), s(0, 1)}, []int{1, 1}},
		{"of runs that rise, and rise again", []api.Event{s(0, 3), s(0, 4), s(0, 1), s(0, 2), s(0, 3), s(0, 2)}, []int{2, 3, 1}},
		{"of runs above the last one, and not above an earlier one", []api.Event{s(0, 5), s(0, 1), s(0, 2)}, []int{1, 2}},
		{"apart", []api.Event{s(0, 1), other, s(0, 2)}, []int{1, 1}},
		{"apart, and some behind", []api.Event{s(0, 1), s(0, 2), other, s(0, 3), s(0, 4), s(0, 5), other}, []int{2, 3}},
		{"apart by several", []api.Event{other, s(0, 1), other, other, s(0, 2), s(0, 3)}, []int{1, 2}},
		{"apart by what is no event", []api.Event{s(0, 1), {Kind: 12}, s(0, 2), {Kind: 0}, s(0, 3), {Kind: -1}, s(0, 4), {Kind: 1<<32 + 3, Run: 5}, s(0, 6)}, []int{1, 1, 1, 1, 1}},
		{"at no tick", []api.Event{s(-1, 1), s(-1, 2), s(last+1, 3), s(last+1, 4), s(math.MinInt64, 5)}, []int{2, 2, 1}},
		{"of runs that are none", []api.Event{s(0, math.MinInt), s(0, -1), s(0, 0), s(0, math.MaxInt), s(0, math.MinInt)}, []int{4, 1}},
		{"of other keys", []api.Event{of(a, s(0, 1)), of(b, by(3, s(0, 2))), of(c, failing(2, s(0, 3)))}, []int{3}},
		{"none", []api.Event{begin(0, 1), begin(0, 2), join(0, 1), {Kind: 4}, {Kind: 13}}, nil},
	} {
		list(t, x.what, tally.Loads(x.l), x.want)
	}
	for kind := -1; kind < 14; kind++ {
		if kind != api.EventSend {
			list(t, "another kind", tally.Loads([]api.Event{{Kind: kind, Run: 1}, {Kind: kind, Run: 2}}), nil)
			list(t, "apart by another kind", tally.Loads([]api.Event{send(0, 1), {Kind: kind, Run: 2}, send(0, 3)}), []int{1, 1})
			list(t, "behind another kind", tally.Loads([]api.Event{{Kind: kind, Run: 2}, send(0, 3), send(0, 4)}), []int{2})
		}
	}
}

// TestStretchBits: bits are 0 to 62, whatever the events (26.3).
func TestStretchBits(t *testing.T) {
	for _, l := range [][]api.Event{nil, {}, {join(5, 1)}, {join(-1, 1)}, {{Kind: 12}}} {
		for _, bits := range []int{-1, -2, 63, 64, 65, 1 << 32, -1 << 32, math.MinInt, math.MaxInt} {
			if s, err := tally.Stretches(l, bits); len(s) != 0 || err != api.ErrBits {
				t.Fatalf("%d: %v, %d", bits, s, err)
			}
		}
		for bits := range 63 {
			if s, err := tally.Stretches(l, bits); len(s) > 1 || err != api.OK {
				t.Fatalf("%d: %v, %d", bits, s, err)
			}
		}
	}
}

// TestStretchEdges: a tick belongs to the stretch that begins at or ahead of it, by any bits (26.3).
func TestStretchEdges(t *testing.T) {
	for bits := range 63 {
		size := int64(1) << bits
		for _, from := range []int64{0, size, 2 * size, last - size, last} {
			if from < 0 || from > last || from%size != 0 {
				continue
			}
			var l []api.Event
			var want []api.Stretch
			if from > 0 {
				l = append(l, begin(from-1, 1))
				want = append(want, api.Stretch{From: from - size, Begins: 1})
			}
			l = append(l, end(from, 1))
			want = append(want, api.Stretch{From: from, Ends: 1})
			if from < last {
				l = append(l, join(from+size-1, 1))
				want[len(want)-1].Joins = 1
				l = append(l, begin(from+size, 1))
				want = append(want, api.Stretch{From: from + size, Begins: 1})
			}
			list(t, "Stretches", ofBits(t, l, bits), want)
			slices.Reverse(l)
			list(t, "Stretches", ofBits(t, l, bits), want)
		}
	}
}

// TestStretches: rising, of those alone in which there is something (26.3).
func TestStretches(t *testing.T) {
	l := []api.Event{join(9, 1), begin(9, 1), end(17, 1), join(8, 2), join(3, 2), by(1, join(3, 3)), begin(0, 2), failing(6, end(2, 9)), by(-1, join(11, 1)), of(c, begin(15, 2)), end(33, 4)}
	list(t, "of one tick", ofBits(t, l, 0), []api.Stretch{{From: 0, Begins: 1}, {From: 2, Ends: 1}, {From: 3, Joins: 2}, {From: 8, Joins: 1}, {From: 9, Joins: 1, Begins: 1}, {From: 11, Joins: 1}, {From: 15, Begins: 1}, {From: 17, Ends: 1}, {From: 33, Ends: 1}})
	list(t, "of two ticks", ofBits(t, l, 1), []api.Stretch{{From: 0, Begins: 1}, {From: 2, Joins: 2, Ends: 1}, {From: 8, Joins: 2, Begins: 1}, {From: 10, Joins: 1}, {From: 14, Begins: 1}, {From: 16, Ends: 1}, {From: 32, Ends: 1}})
	list(t, "of eight ticks", ofBits(t, l, 3), []api.Stretch{{From: 0, Joins: 2, Begins: 1, Ends: 1}, {From: 8, Joins: 3, Begins: 2}, {From: 16, Ends: 1}, {From: 32, Ends: 1}})
	list(t, "of all ticks but one", ofBits(t, append(l, join(last-1, 1), join(last, 1)), 62), []api.Stretch{{From: 0, Joins: 6, Begins: 3, Ends: 3}, {From: last, Joins: 1}})
	var others []api.Event
	for _, kind := range []int{-1, 0, 3, 4, 6, 7, 8, 9, 10, 11, 12, 1<<32 + 1, 1<<32 + 2, 1<<32 + 5} {
		others = append(others, api.Event{At: 8, Kind: kind}, api.Event{At: 100, Kind: kind})
	}
	list(t, "of other kinds", ofBits(t, others, 3), nil)
	list(t, "with other kinds", ofBits(t, slices.Concat(others, l, others), 3), ofBits(t, l, 3))
	var none []api.Event
	for _, at := range []int64{-1, -8, last + 1, math.MinInt64, math.MaxInt64} {
		none = append(none, join(at, 1), begin(at, 1), end(at, 1))
	}
	for bits := range 63 {
		list(t, "of no ticks", ofBits(t, none, bits), nil)
		list(t, "with no ticks", ofBits(t, slices.Concat(none, l, none), bits), ofBits(t, l, bits))
	}
}

// TestShared: how many Tells there are, and of how many runs (26.3).
func TestShared(t *testing.T) {
	for _, x := range []struct {
		what       string
		l          []api.Event
		told, runs int
	}{
		{"one", []api.Event{tell(0, 1, 1)}, 1, 1},
		{"several of one run", []api.Event{tell(0, 1, 1), tell(0, 2, 1), tell(7, 3, 1), tell(2, 3, 1)}, 4, 1},
		{"of several runs", []api.Event{tell(0, 1, 1), tell(0, 2, 2), tell(0, 1, 1), tell(0, 1, 3), tell(0, 9, 2)}, 5, 3},
		{"of one caller", []api.Event{tell(0, 1, 1), tell(0, 1, 2)}, 2, 2},
		{"of runs that are none", []api.Event{tell(0, 1, 0), tell(0, 1, -1), tell(-1, 1, math.MinInt), tell(0, 0, math.MaxInt), tell(0, 0, 1<<32), tell(0, 0, 0)}, 6, 5},
		{"with others between", []api.Event{begin(0, 4), join(0, 1), tell(0, 1, 1), end(0, 5), {Kind: 12, Run: 9}, tell(0, 2, 1)}, 2, 1},
		{"of other keys and outcomes", []api.Event{of(a, tell(0, 1, 1)), of(b, failing(1, tell(0, 1, 1)))}, 2, 1},
	} {
		told, runs := tally.Shared(x.l)
		same(t, x.what, []int{told, runs}, []int{x.told, x.runs})
	}
	for _, kind := range []int{math.MinInt, -1, 0, 1, 2, 3, 5, 6, 7, 8, 9, 10, 11, 12, 1<<32 + 4} {
		told, runs := tally.Shared([]api.Event{{Kind: kind, Run: 1, Caller: 1}, {Kind: kind, Run: 2}})
		same(t, "another kind", []int{told, runs}, []int{0, 0})
	}
}
