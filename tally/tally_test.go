package tally_test

import (
	"math"
	"reflect"
	"slices"
	"testing"

	"convoy/api"
	"convoy/tally"
)

const last = 1 << 62 // the greatest tick

// a, b and c are keys, each less than the one behind it.
var a, b, c = api.Key{Name: "a"}, api.Key{Name: "b"}, api.Key{Space: 7, Name: "a"}

func join(at int64, caller int) api.Event {
	return api.Event{At: at, Kind: api.EventJoin, Caller: caller, How: api.HowLed}
}

func tell(at int64, caller, run int) api.Event {
	return api.Event{At: at, Kind: api.EventTell, Caller: caller, Run: run}
}

func begin(at int64, run int) api.Event {
	return api.Event{At: at, Kind: api.EventBegin, Run: run}
}

func end(at int64, run int) api.Event {
	return api.Event{At: at, Kind: api.EventEnd, Run: run}
}

func send(at int64, run int) api.Event {
	return api.Event{At: at, Kind: api.EventSend, Run: run}
}

func of(k api.Key, e api.Event) api.Event {
	e.Key = k
	return e
}

func by(how int, e api.Event) api.Event {
	e.How = how
	return e
}

func failing(kind int, e api.Event) api.Event {
	e.Outcome.Fail.Kind = kind
	return e
}

// same holds what a call answers against what it should.
func same[T any](t testing.TB, what string, got, want T) {
	t.Helper()
	if !reflect.DeepEqual(got, want) {
		t.Fatalf("%s: %+v, not %+v", what, got, want)
	}
}

// list holds a list against another one; of no length and nil are the same.
func list[T comparable](t testing.TB, what string, got, want []T) {
	t.Helper()
	if !slices.Equal(got, want) {
		t.Fatalf("%s: %+v, not %+v", what, got, want)
	}
}

func ofBits(t testing.TB, l []api.Event, bits int) []api.Stretch {
	t.Helper()
	s, err := tally.Stretches(l, bits)
	if err != api.OK {
		t.Fatalf("of %d bits: %d", bits, err)
	}
	return s
}

// TestNothing: of no events, and of nil, there is nothing to count (26.1 to 26.3).
func TestNothing(t *testing.T) {
	for _, l := range [][]api.Event{nil, {}, []api.Event{join(0, 1), tell(0, 1, 1), begin(0, 1), end(0, 1), send(0, 1)}[:0]} {
		same(t, "Of", tally.Of(l), api.Tally{})
		same(t, "Waits", tally.Waits(l), [64]int{})
		same(t, "Lengths", tally.Lengths(l), [64]int{})
		list(t, "Keys", tally.Keys(l), nil)
		list(t, "Loads", tally.Loads(l), nil)
		list(t, "Stretches", ofBits(t, l, 5), nil)
		told, runs := tally.Shared(l)
		same(t, "Shared", []int{told, runs}, []int{0, 0})
	}
}

// TestExamples is those of the chapter (26.2, 26.3).
func TestExamples(t *testing.T) {
	l := []api.Event{join(0, 1), join(0, 2), join(0, 3), begin(0, 1), tell(0, 1, 1), tell(0, 2, 1), tell(5, 3, 1)}
	waits := tally.Waits(l)
	quantile(t, waits, 1, 2, 0)
	quantile(t, waits, 1, 1, 7)
	told, runs := tally.Shared(l)
	same(t, "Shared", []int{told, runs}, []int{3, 1})
}

// TestKinds: events are counted by their kinds, all others together (26.1).
func TestKinds(t *testing.T) {
	var all []api.Event
	var want [12]int
	for kind := 1; kind <= 11; kind++ {
		one := tally.Of([]api.Event{{Kind: kind}})
		var alone [12]int
		alone[kind] = 1
		same(t, "Kinds of one", one.Kinds, alone)
		for range kind {
			all = append(all, api.Event{Kind: kind})
		}
		want[kind] = kind
	}
	same(t, "Kinds", tally.Of(all).Kinds, want)
	for n, kind := range []int{0, -1, 12, 13, -5, 1 << 32, 1<<32 + 1, -1 << 32, math.MinInt, math.MaxInt} {
		got := tally.Of([]api.Event{{Kind: kind, Run: 1, How: 3, Outcome: api.Outcome{Fail: api.Fail{Kind: 1}}, Key: a}})
		same(t, "another kind", got, api.Tally{Kinds: [12]int{1}})
		all = append(all, api.Event{Kind: kind})
		want[0] = n + 1
		same(t, "Kinds with others", tally.Of(all).Kinds, want)
	}
}

// TestHows: Joins are counted by how they went, and by no other number (26.1).
func TestHows(t *testing.T) {
	var all []api.Event
	var want [7]int
	for how := range 7 {
		for range how + 2 {
			all = append(all, by(how, join(0, 1)))
		}
		want[how] = how + 2
	}
	for _, how := range []int{-1, 7, 8, 1 << 32, 1<<32 + 1, math.MinInt, math.MaxInt} {
		got := tally.Of([]api.Event{by(how, join(0, 1))})
		same(t, "another How", got, api.Tally{Kinds: [12]int{1: 1}, Keys: 1})
		all = append(all, by(how, join(0, 1)))
	}
	for kind := range 13 {
		if kind != api.EventJoin {
			all = append(all, api.Event{Kind: kind, How: 5})
		}
	}
	same(t, "Hows", tally.Of(all).Hows, want)
}

// TestEnds: Ends are counted by their failures' kinds, 0 of those of a value, and by no other number (26.1).
func TestEnds(t *testing.T) {
	var all []api.Event
	var want [6]int
	for kind := range 6 {
		for range kind + 2 {
			all = append(all, failing(kind, end(0, 1)))
		}
		want[kind] = kind + 2
	}
	for _, kind := range []int{-1, 6, 7, 1 << 32, 1<<32 + 1, math.MinInt, math.MaxInt} {
		got := tally.Of([]api.Event{failing(kind, end(0, 1))})
		same(t, "another failure", got, api.Tally{Kinds: [12]int{5: 1}})
		all = append(all, failing(kind, end(0, 1)))
	}
	for kind := range 13 {
		if kind != api.EventEnd {
			all = append(all, failing(2, api.Event{Kind: kind}))
		}
	}
	same(t, "Ends", tally.Of(all).Ends, want)
}

// TestUnlikeKeys: each key that stands in a Join counts once, however it went; keys are unlike by the space alone, and by the name alone (26.1).
func TestUnlikeKeys(t *testing.T) {
	for n, l := range [][]api.Event{
		{of(a, begin(0, 1)), of(b, tell(0, 1, 1)), of(c, end(0, 1)), {Kind: 8, Key: a}, {Kind: 9, Key: b}, {Kind: 0, Key: c}, {Kind: 12, Key: c}},
		{join(0, 1), join(0, 2)},
		{of(a, join(0, 1)), of(b, by(4, join(0, 1)))},
		{of(a, by(6, join(0, 1))), of(b, by(-1, join(0, 1))), of(a, join(0, 2)), of(c, by(7, join(0, 1))), of(b, join(5, 9)), of(c, join(-1, 9))},
		{join(0, 1), of(api.Key{Space: 1}, join(0, 1)), of(api.Key{Space: 256}, join(0, 1)), of(api.Key{Name: "\x00"}, join(0, 1))},
		{of(a, join(0, 1)), of(api.Key{Name: "a "}, join(0, 1)), of(api.Key{Name: "A"}, join(0, 1)), of(api.Key{Name: ""}, join(0, 1)), of(api.Key{Name: string(make([]byte, 70))}, join(0, 1))},
	} {
		same(t, "Keys", tally.Of(l).Keys, n)
	}
}

// TestMost is how many runs are in progress at most, each from its Begin to its End, by its number (26.1).
func TestMost(t *testing.T) {
	for _, x := range []struct {
		what string
		l    []api.Event
		want int
	}{
		{"one", []api.Event{begin(0, 1)}, 1},
		{"one that ended", []api.Event{begin(0, 1), end(0, 1)}, 1},
		{"one behind the other", []api.Event{begin(0, 1), end(1, 1), begin(1, 2), end(2, 2), begin(2, 3)}, 1},
		{"two at one tick, one behind the other", []api.Event{begin(0, 1), end(0, 1), begin(0, 2)}, 1},
		{"two", []api.Event{begin(0, 1), begin(1, 2), end(2, 1), end(3, 2)}, 2},
		{"two, and another one later", []api.Event{begin(0, 1), begin(1, 2), end(2, 1), begin(3, 3)}, 2},
		{"three early, two late", []api.Event{begin(0, 1), begin(0, 2), begin(0, 3), end(1, 1), end(1, 2), end(1, 3), begin(2, 4), begin(2, 5)}, 3},
		{"three late", []api.Event{begin(0, 1), begin(0, 2), end(1, 1), begin(2, 4), begin(2, 5)}, 3},
		{"of one key and generation", []api.Event{of(a, begin(0, 1)), of(a, begin(0, 2))}, 2},
		{"a number that begins twice", []api.Event{begin(0, 1), begin(0, 1)}, 1},
		{"that begins twice, with another key", []api.Event{of(a, begin(0, 1)), of(b, begin(5, 1))}, 1},
		{"that begins twice beside another one", []api.Event{begin(0, 1), begin(0, 1), begin(0, 2), begin(0, 1)}, 2},
		{"that begins twice and ended once", []api.Event{begin(0, 1), begin(0, 1), end(0, 1), begin(0, 2)}, 1},
		{"that ends twice", []api.Event{begin(0, 1), end(0, 1), end(0, 1), begin(0, 2), begin(0, 3)}, 2},
		{"that ends twice beside another one", []api.Event{begin(0, 1), begin(0, 2), end(0, 1), end(0, 1), begin(0, 3)}, 2},
		{"that begins anew", []api.Event{begin(0, 1), end(0, 1), begin(0, 1), begin(0, 2)}, 2},
		{"that ends with another key", []api.Event{of(a, begin(0, 1)), of(b, end(0, 1)), begin(0, 2)}, 1},
		{"an End without a Begin", []api.Event{end(0, 1)}, 0},
		{"an End ahead of its Begin", []api.Event{end(0, 1), begin(0, 1)}, 1},
		{"an End of another number", []api.Event{begin(0, 1), end(0, 2), begin(0, 3)}, 2},
		{"numbers that no run has", []api.Event{begin(0, 0), begin(0, -1), begin(0, math.MinInt), begin(0, math.MaxInt), begin(0, 1<<32)}, 5},
		{"at no tick, and back", []api.Event{begin(-1, 1), begin(math.MaxInt64, 2), begin(5, 3), end(3, 1), begin(0, 4)}, 3},
		{"other kinds", []api.Event{{Kind: 3, Run: 1}, {Kind: 4, Run: 2}, join(0, 3), {Kind: 0, Run: 5}, {Kind: 12, Run: 6}, begin(0, 7)}, 1},
		{"other kinds end nothing", []api.Event{begin(0, 1), {Kind: 6, Run: 1}, {Kind: 7, Run: 1}, {Kind: 4, Run: 1}, {Kind: 11, Run: 1}, {Kind: 13, Run: 1}, begin(0, 2)}, 2},
	} {
		same(t, x.what, tally.Of(x.l).Most, x.want)
	}
}

// filled is counts, each of them unlike all others, and all of them unlike those by another first.
func filled(first, keys, most int) api.Tally {
	t := api.Tally{Keys: keys, Most: most}
	for _, counts := range [][]int{t.Kinds[:], t.Hows[:], t.Ends[:]} {
		for n := range counts {
			first *= 3
			counts[n] = first
		}
	}
	return t
}

// TestMerge: all counts are together, but Keys and Most, of which each is the greater one by itself (26.1).
func TestMerge(t *testing.T) {
	for _, x := range []struct{ keysA, keysB, mostA, mostB, keys, most int }{
		{3, 5, 4, 2, 5, 4}, {5, 3, 2, 4, 5, 4}, {5, 3, 4, 2, 5, 4}, {3, 5, 2, 4, 5, 4}, {3, 3, 4, 4, 3, 4},
		{0, 0, 0, 0, 0, 0}, {0, 1, 1, 0, 1, 1}, {-1, -2, -2, -1, -1, -1}, {-1, 0, 0, -1, 0, 0}, {math.MaxInt, math.MinInt, math.MinInt, math.MaxInt, math.MaxInt, math.MaxInt},
	} {
		one, other := filled(1, x.keysA, x.mostA), filled(-2, x.keysB, x.mostB)
		want := filled(-1, x.keys, x.most)
		same(t, "Merge", tally.Merge(one, other), want)
		same(t, "Merge", tally.Merge(other, one), want)
	}
	same(t, "of nothing", tally.Merge(api.Tally{}, api.Tally{}), api.Tally{})
	one := filled(1, 2, 3)
	same(t, "with nothing", tally.Merge(one, api.Tally{}), one)
	same(t, "with nothing", tally.Merge(api.Tally{}, one), one)
}

// TestMergeOf: what is counted of two lists is that of both, but for Keys and Most (26.1).
func TestMergeOf(t *testing.T) {
	one := []api.Event{of(a, join(0, 1)), of(b, join(0, 2)), begin(0, 1), failing(2, end(0, 1)), {Kind: 12}}
	other := []api.Event{of(a, by(1, join(0, 1))), begin(0, 1), begin(0, 2), begin(0, 3), end(0, 1), {Kind: -1}, {Kind: 8}}
	want := api.Tally{Kinds: [12]int{0: 2, 1: 3, 2: 4, 5: 2, 8: 1}, Hows: [7]int{1: 1, 5: 2}, Ends: [6]int{0: 1, 2: 1}, Keys: 2, Most: 3}
	same(t, "Merge", tally.Merge(tally.Of(one), tally.Of(other)), want)
	same(t, "Merge", tally.Merge(tally.Of(other), tally.Of(one)), want)
}
