package trace_test

import (
	"math"
	"slices"
	"testing"

	"convoy/api"
	"convoy/trace"
)

// found holds a list of places against another one.
func found(t *testing.T, what string, got []int, want ...int) {
	t.Helper()
	if !slices.Equal(got, want) {
		t.Fatalf("%s: %v, not %v", what, got, want)
	}
}

// several is a trace of an event of each kind, and some more.
func several(t *testing.T) *trace.Trace {
	t.Helper()
	a, b := named("a"), api.Key{Space: 7, Name: "b"}
	return made(t,
		api.Event{At: 0, Kind: api.EventBegin, Run: 1, Key: a},
		api.Event{At: 0, Kind: api.EventJoin, Client: 1, Caller: 1, Run: 1, How: 5, Key: a},
		api.Event{At: 0, Kind: api.EventSend, Run: 1},
		api.Event{At: 2, Kind: api.EventBegin, Run: 3, Key: b},
		api.Event{At: 2, Kind: api.EventJoin, Client: 2, Caller: 2, Run: 3, How: 5, Key: b},
		api.Event{At: 3, Kind: api.EventJoin, Client: 1, Caller: 3, How: 1, Outcome: failed(1, 7, 9)},
		api.Event{At: 3, Kind: api.EventEnd, Run: 1, Key: a, Outcome: api.Outcome{Value: 7}},
		api.Event{At: 3, Kind: api.EventTell, Client: 1, Caller: 1, Run: 1, Key: a, Outcome: api.Outcome{Value: 7}},
		api.Event{At: 3, Kind: api.EventKeep, Run: 1, Key: a, Outcome: api.Outcome{Value: 7}},
		api.Event{At: 5, Kind: api.EventForget, Client: 2, Key: a, Generation: 1},
		api.Event{At: 5, Kind: api.EventDrop, Key: a},
		api.Event{At: 5, Kind: api.EventLeave, Client: 2, Caller: 2, Run: 3, Key: b, Outcome: failed(3, 0, 0)},
		api.Event{At: 7, Kind: api.EventCancel, Run: 3, Key: b},
		api.Event{At: 7, Kind: api.EventAbandon, Run: 3, Key: b, Generation: 1},
		api.Event{At: 9, Kind: api.EventSend, Run: 2},
	)
}

// TestOfKind: of no kind, of one, and of several (24.3).
func TestOfKind(t *testing.T) {
	x := several(t)
	for kind, want := range map[int][]int{
		1: {1, 4, 5}, 2: {0, 3}, 3: {2, 14}, 4: {7}, 5: {6}, 6: {12}, 7: {13}, 8: {9}, 9: {8}, 10: {10}, 11: {11}, 0: nil, 12: nil, -1: nil, math.MaxInt: nil, math.MinInt: nil,
	} {
		found(t, "one kind", x.OfKind(kind), want...)
		found(t, "one kind twice", x.OfKind(kind, kind), want...)
		found(t, "one kind and none", x.OfKind(0, kind, 12, -1, math.MaxInt, math.MinInt), want...)
	}
	found(t, "no kind", x.OfKind())
	found(t, "several", x.OfKind(5, 2, 3), 0, 2, 3, 6, 14)
	found(t, "several", x.OfKind(11, 10), 10, 11)
	found(t, "all", x.OfKind(11, 10, 9, 8, 7, 6, 5, 4, 3, 2, 1), 0, 1, 2, 3, 4, 5, 6, 7, 8, 9, 10, 11, 12, 13, 14)
	found(t, "of nothing", trace.New().OfKind(1, 2, 3))
}

// TestOfRun: of a run's number, 0 being none's (24.3).
func TestOfRun(t *testing.T) {
	x := several(t)
	found(t, "1", x.OfRun(1), 0, 1, 2, 6, 7, 8)
	found(t, "2", x.OfRun(2), 14)
	found(t, "3", x.OfRun(3), 3, 4, 11, 12, 13)
	for _, run := range []int{math.MinInt, -1, 0, 4, 7, 9, math.MaxInt} {
		found(t, "none", x.OfRun(run))
	}
	found(t, "of nothing", trace.New().OfRun(1))
	found(t, "of nothing", trace.New().OfRun(0))
	found(t, "the greatest", made(t, api.Event{Kind: 3, Run: math.MaxInt}, api.Event{Kind: 3}).OfRun(math.MaxInt), 0)
}

// TestOfKey: of those whose kind names a key, though it be the zero one (24.3).
func TestOfKey(t *testing.T) {
	x := several(t)
	found(t, "a", x.OfKey(named("a")), 0, 1, 6, 7, 8, 9, 10)
	found(t, "b", x.OfKey(api.Key{Space: 7, Name: "b"}), 3, 4, 11, 12, 13)
	found(t, "the zero one", x.OfKey(api.Key{}), 5)
	for _, k := range append(wrongKeys, named("b"), api.Key{Space: 7, Name: "a"}, api.Key{Space: 7}, named("A"), named("a ")) {
		found(t, "none", x.OfKey(k))
	}
	found(t, "of nothing", trace.New().OfKey(api.Key{}))
	for _, f := range forms {
		want := []int{}
		if f.key {
			want = []int{0}
		}
		found(t, f.word, made(t, api.Event{Kind: f.kind}).OfKey(api.Key{}), want...)
	}
}

// TestOfClient: of a client's number, 0 being none's (24.3).
func TestOfClient(t *testing.T) {
	x := several(t)
	found(t, "1", x.OfClient(1), 1, 5, 7)
	found(t, "2", x.OfClient(2), 4, 9, 11)
	for _, client := range []int{math.MinInt, -1, 0, 3, math.MaxInt} {
		found(t, "none", x.OfClient(client))
	}
	found(t, "of nothing", trace.New().OfClient(1))
	found(t, "the greatest", made(t, api.Event{Kind: 8, Client: math.MaxInt}, api.Event{Kind: 8}).OfClient(math.MaxInt), 0)
}

// TestBetween: of the ticks from one to another, both with them (24.3).
func TestBetween(t *testing.T) {
	x := several(t)
	for _, row := range []struct {
		from, to int64
		want     []int
	}{
		{0, 0, []int{0, 1, 2}}, {2, 2, []int{3, 4}}, {1, 1, nil}, {1, 2, []int{3, 4}}, {2, 3, []int{3, 4, 5, 6, 7, 8}}, {3, 4, []int{5, 6, 7, 8}}, {4, 4, nil}, {9, 9, []int{14}}, {8, 1 << 62, []int{14}}, {10, 1 << 62, nil}, {-5, 0, []int{0, 1, 2}}, {-5, -1, nil},
		{math.MinInt64, math.MaxInt64, []int{0, 1, 2, 3, 4, 5, 6, 7, 8, 9, 10, 11, 12, 13, 14}}, {6, 7, []int{12, 13}}, {1 << 62, math.MaxInt64, nil},
		{1, 0, nil}, {9, 0, nil}, {3, 2, nil}, {math.MaxInt64, math.MinInt64, nil}, {0, -1, nil}, {5, 3, nil},
	} {
		found(t, "Between", x.Between(row.from, row.to), row.want...)
	}
	found(t, "of nothing", trace.New().Between(0, 1<<62))
	found(t, "the greatest", made(t, api.Event{At: 1 << 62, Kind: 3}).Between(1<<62, 1<<62), 0)
	found(t, "ahead of the greatest", made(t, api.Event{At: 1 << 62, Kind: 3}).Between(0, 1<<62-1))
}

// TestRuns: each once, rising, without 0 (24.3).
func TestRuns(t *testing.T) {
	found(t, "several", several(t).Runs(), 1, 2, 3)
	found(t, "of nothing", trace.New().Runs())
	found(t, "of none", made(t, api.Event{Kind: 3}, api.Event{Kind: 10}, api.Event{Kind: 1, Client: 5, Caller: 6}).Runs())
	found(t, "of one", made(t, api.Event{Kind: 3, Run: math.MaxInt}).Runs(), math.MaxInt)
	found(t, "falling", made(t, api.Event{Kind: 3, Run: 9}, api.Event{Kind: 3, Run: 7}, api.Event{Kind: 3}, api.Event{Kind: 3, Run: 8}, api.Event{Kind: 3, Run: 7}, api.Event{Kind: 3, Run: 10}, api.Event{Kind: 3, Run: 9}).Runs(), 7, 8, 9, 10)
	for _, f := range forms {
		want := []int{}
		if f.run {
			want = []int{3}
		}
		found(t, f.word, made(t, filled(f)).Runs(), want...)
	}
}

// TestKeys: each once, in order, with the zero one, if a kind that names a key has it (24.3).
func TestKeys(t *testing.T) {
	same := func(got []api.Key, want ...api.Key) {
		t.Helper()
		if !slices.Equal(got, want) {
			t.Fatalf("%v, not %v", got, want)
		}
	}
	same(several(t).Keys(), api.Key{}, named("a"), api.Key{Space: 7, Name: "b"})
	same(trace.New().Keys())
	same(made(t, api.Event{Kind: 3}, api.Event{Kind: 3, Run: 1}).Keys())
	same(made(t, api.Event{Kind: 10}).Keys(), api.Key{})
	same(made(t, api.Event{Kind: 10, Key: named("b")}, api.Event{Kind: 9, Key: api.Key{Space: 1}}, api.Event{Kind: 8, Key: named("a")}, api.Event{Kind: 3}, api.Event{Kind: 7, Key: named("ab")}, api.Event{Kind: 10, Key: named("b")}, api.Event{Kind: 10, Key: api.Key{Space: 1}}).Keys(), named("a"), named("ab"), named("b"), api.Key{Space: 1})
	for _, f := range forms {
		if f.key {
			same(made(t, filled(f)).Keys(), api.Key{Space: 7, Name: "a b"})
		} else {
			same(made(t, filled(f)).Keys())
		}
	}
}
