package audit_test

import (
	"math"
	"testing"

	"convoy/api"
)

// keeps is Keeps of so many keys.
func keeps(n int) []api.Event {
	var l []api.Event
	for space := range n {
		l = append(l, api.Event{Kind: api.EventKeep, Run: 1, Key: api.Key{Space: uint16(space)}})
	}
	return l
}

// TestEntriesKeep: at most most keys have an entry, unless a Drop is next (25.3).
func TestEntriesKeep(t *testing.T) {
	for _, most := range []int{math.MinInt, -2, -1, 0, 1, 2, 3, 7, 20, math.MaxInt} {
		for n := range 12 {
			want := -1
			if n > max(most, 0) {
				want = max(most, 0)
			}
			answers(t, "Keeps", entries(most), keeps(n), want)
		}
	}
	table(t, entries(2), []row{
		{"0 keep r1 k0:a; 0 keep r2 k0:b", -1}, {"0 keep r1 k0:a; 0 keep r2 k0:b; 0 keep r3 k0:c", 2}, {"0 keep r1 k0:a; 0 keep r2 k1:a; 0 keep r3", 2},
		// The next event is a Drop, of whatever key that has an entry.
		{"0 keep r1 k0:a; 0 keep r2 k0:b; 0 keep r3 k0:c; 0 drop k0:a", -1}, {"0 keep r1 k0:a; 0 keep r2 k0:b; 0 keep r3 k0:c; 0 drop k0:b", -1}, {"0 keep r1 k0:a; 0 keep r2 k0:b; 0 keep r3 k0:c; 0 drop k0:c", -1}, {"0 keep r1 k0:a; 0 keep r2 k0:b; 0 keep r3 k0:c; 9 drop k0:a; 9 keep r4 k0:a; 9 drop k0:c", -1},
		// It is none, or there is none.
		{"0 keep r1 k0:a; 0 keep r2 k0:b; 0 keep r3 k0:c; 0 send r1", 2}, {"0 keep r1 k0:a; 0 keep r2 k0:b; 0 keep r3 k0:c; 0 send r1; 0 drop k0:a", 2}, {"0 keep r1 k0:a; 0 keep r2 k0:b; 0 keep r3 k0:c; 0 keep r4 k0:d; 0 drop k0:a", 2}, {"0 keep r1 k0:a; 0 keep r2 k0:b; 0 keep r3 k0:c; 0 forget g1 k0:a", 2},
		{"0 keep r1 k0:a; 0 keep r2 k0:b; 0 keep r3 k0:c; 0 drop k0:a; 0 keep r4 k0:d", 4}, {"0 keep r1 k0:a; 0 keep r2 k0:b; 0 drop k0:a; 0 keep r3 k0:c; 0 keep r4 k0:d", 4}, {"0 keep r1 k0:a; 0 keep r2 k0:b; 0 drop k0:a; 0 keep r3 k0:c; 0 send r1", -1},
		// Of a key that has an entry there are no more than before.
		{"0 keep r1 k0:a; 0 keep r2 k0:b; 0 keep r3 k0:a; 0 keep r4 k0:b; 0 send r1; 0 keep r5 k0:a", -1}, {"0 keep r1 k0:a; 0 keep r1 k0:a; 0 keep r1 k0:a; 0 keep r1 k0:b; 0 keep r1 k0:c", 4}, {"0 keep r1 k0:a; 0 keep r2 k0:b; 0 drop k0:a; 0 keep r3 k0:a; 0 keep r3 k0:c", 4},
		// A forgetting alone drops nothing.
		{"0 keep r1 k0:a; 0 forget g1 k0:a; 0 keep r2 k0:b; 0 keep r3 k0:c", 3}, {"0 keep r1 f1:0:1 k0:a; 0 keep r2 f2:0:2 k0:b; 0 keep r3 k0:c", 2},
	})
	table(t, entries(0), []row{
		{"0 keep r1 k0:a", 0}, {"0 keep r1 k0:a; 0 drop k0:a", -1}, {"0 keep r1 k0:a; 0 drop k0:a; 0 keep r2 k0:b; 0 drop k0:b", -1}, {"0 keep r1 k0:a; 0 drop k0:b", 1}, {"0 keep r1 k0:a; 0 drop k0:a; 0 keep r1 k0:a", 2}, {"0 join n1 h1 k0:a; 0 begin r1 k0:a", -1},
	})
	// Below 0 there are always more, which the Drop behind each makes right.
	table(t, entries(-1), []row{{"0 keep r1 k0:a", 0}, {"0 keep r1 k0:a; 0 drop k0:a", -1}, {"0 keep r1 k0:a; 0 drop k0:a; 0 send r1", -1}, {"0 drop k0:a", 0}})
	table(t, entries(1), []row{{"0 keep r1 k0:a; 0 keep r2 k0:b; 0 drop k0:a; 0 keep r1 k0:b; 0 keep r3 k0:a; 0 drop k0:b; 0 drop k0:a; 0 keep r4 k0:b", -1}})
}

// TestEntriesDrop: an entry goes only where there is one (25.3).
func TestEntriesDrop(t *testing.T) {
	for _, most := range []int{math.MinInt, -1, 0, 1, 5, math.MaxInt} {
		table(t, entries(most), []row{
			{"0 drop k0:a", 0}, {"0 drop", 0}, {"0 join n1 h1 v7 k0:a; 0 end r1 v7 k0:a; 0 begin r1 k0:a; 0 drop k0:a", 3}, {"0 keep r1 k0:a; 0 drop k0:b", 1}, {"0 keep r1 k0:a; 0 drop k1:a", 1}, {"0 keep r1 k0:a; 0 drop", 1}, {"0 keep r1; 0 drop", -1},
			{"0 keep r1 k0:a; 0 drop k0:a", -1}, {"0 keep r1 k0:a; 0 drop k0:a; 0 drop k0:a", 2},
			{"0 drop k0:a; 0 keep r1 k0:a", 0}, {"0 keep r1 k0:a; 0 drop k0:a; 0 keep r2 k0:a; 0 drop k0:a", -1},
		})
	}
	table(t, entries(2), []row{
		{"0 keep r1 k0:a; 0 keep r1 k0:a; 0 drop k0:a; 0 drop k0:a", 3}, {"0 keep r1 k0:a; 0 keep r2 k0:b; 0 drop k0:b; 0 drop k0:a; 0 drop k0:b", 4}, {"0 keep r1 k0:a; 0 keep r2 k0:b; 0 keep r3 k0:c; 0 drop k0:d", 3}, {"0 keep r1 k0:a; 0 forget g1 k0:a; 0 drop k0:a", -1},
	})
}

// by is a configuration of TTL, Negative and Stale.
func by(ttl, negative, stale int64) api.Config {
	return api.Config{TTL: ttl, Negative: negative, Stale: stale}
}

// TestAgesHit: who has a hit has the entry, and that is fresh (25.4).
func TestAgesHit(t *testing.T) {
	table(t, ages(by(5, 3, 4)), []row{
		// At the tick of the Keep, at the last one of TTL, one further, and where it would be stale and old.
		{"10 keep r1 v7 k0:a; 10 join n1 h1 v7 k0:a", -1}, {"10 keep r1 v7 k0:a; 14 join n1 h1 v7 k0:a", -1}, {"10 keep r1 v7 k0:a; 15 join n1 h1 v7 k0:a", 1}, {"10 keep r1 v7 k0:a; 18 join n1 h1 v7 k0:a", 1}, {"10 keep r1 v7 k0:a; 19 join n1 h1 v7 k0:a", 1},
		// A failure by Negative.
		{"10 keep r1 f1:0:1 k0:a; 10 join n1 h1 f1:0:1 k0:a", -1}, {"10 keep r1 f1:0:1 k0:a; 12 join n1 h1 f1:0:1 k0:a", -1}, {"10 keep r1 f1:0:1 k0:a; 13 join n1 h1 f1:0:1 k0:a", 1}, {"10 keep r1 f2:0:1 k0:a; 12 join n1 h1 f2:0:1 k0:a; 14 join n1 h1 f2:0:1 k0:a", 2}, {"10 keep r1 f5:0:1 k0:a; 12 join n1 h1 f5:0:1 k0:a; 13 join n1 h1 f5:0:1 k0:a", 2},
		// There is none, or one of another key, or none any more.
		{"10 join n1 h1 v7 k0:a", 0}, {"10 join n1 h1 k0:a", 0}, {"0 join h1", 0}, {"10 keep r1 v7 k0:b; 10 join n1 h1 v7 k0:a", 1}, {"10 keep r1 v7 k1:a; 10 join n1 h1 v7 k0:a", 1}, {"10 keep r1 k0:a; 10 drop k0:a; 10 join n1 h1 k0:a", 2}, {"10 keep r1 k0:a; 10 drop k0:b; 10 join n1 h1 k0:a; 11 drop k0:a; 11 join n2 h1 k0:a", 4}, {"10 join n1 h1 v7 k0:a; 10 keep r1 v7 k0:a", 0}, {"0 keep r1; 0 join n1 h1", -1},
		// Another outcome.
		{"10 keep r1 v7 k0:a; 10 join n1 h1 v8 k0:a", 1}, {"10 keep r1 v7 k0:a; 10 join n1 h1 k0:a", 1}, {"10 keep r1 k0:a; 10 join n1 h1 f1:0:1 k0:a", 1}, {"10 keep r1 f1:0:1 k0:a; 10 join n1 h1 k0:a", 1}, {"10 keep r1 f1:0:1 k0:a; 10 join n1 h1 f2:0:1 k0:a", 1}, {"10 keep r1 f1:0:1 k0:a; 10 join n1 h1 f1:1:1 k0:a", 1}, {"10 keep r1 f1:0:1 k0:a; 10 join n1 h1 f1:0:2 k0:a", 1},
		// Of the last Keep: its outcome and its tick.
		{"10 keep r1 v7 k0:a; 12 keep r2 v8 k0:a; 12 join n1 h1 v7 k0:a", 2}, {"10 keep r1 v7 k0:a; 12 keep r2 v8 k0:a; 16 join n1 h1 v8 k0:a; 17 join n2 h1 v8 k0:a", 3}, {"10 keep r1 v7 k0:a; 12 keep r2 f1:0:2 k0:a; 14 join n1 h1 f1:0:2 k0:a; 15 join n2 h1 f1:0:2 k0:a", 3}, {"10 keep r1 f1:0:1 k0:a; 12 keep r2 v7 k0:a; 16 join n1 h1 v7 k0:a", -1}, {"10 keep r1 v7 k0:a; 12 drop k0:a; 12 keep r2 v7 k0:a; 16 join n1 h1 v7 k0:a", -1},
		// An End keeps nothing, a forgetting drops nothing, and a hit makes nothing new.
		{"10 end r1 v7 k0:a; 10 join n1 h1 v7 k0:a", 1}, {"10 keep r1 v7 k0:a; 11 end r2 v8 k0:a; 11 forget g1 k0:a; 11 begin r3 k0:a; 12 join n1 h1 v7 k0:a; 14 join n2 h1 v7 k0:a; 15 join n3 h1 v7 k0:a", 6},
		// Now is ahead of it.
		{"10 keep r1 v7 k0:a; 9 join n1 h1 v7 k0:a", 1}, {"10 keep r1 f1:0:1 k0:a; 0 join n1 h1 f1:0:1 k0:a", 1},
	})
	table(t, ages(by(0, 0, 9)), []row{{"10 keep r1 v7 k0:a; 10 join n1 h1 v7 k0:a", 1}, {"10 keep r1 f1:0:1 k0:a; 10 join n1 h1 f1:0:1 k0:a", 1}})
	table(t, ages(by(-1, 5, 9)), []row{{"10 keep r1 v7 k0:a; 10 join n1 h1 v7 k0:a", 1}, {"10 keep r1 f1:0:1 k0:a; 14 join n1 h1 f1:0:1 k0:a; 15 join n1 h1 f1:0:1 k0:a", 2}})
	table(t, ages(by(5, -1, -1)), []row{{"10 keep r1 v7 k0:a; 14 join n1 h1 v7 k0:a; 15 join n1 h1 v7 k0:a", 2}, {"10 keep r1 f1:0:1 k0:a; 10 join n1 h1 f1:0:1 k0:a", 1}})
	table(t, ages(by(math.MinInt64, math.MinInt64, math.MinInt64)), []row{{"0 keep r1 v7 k0:a; 10 join n1 h1 v7 k0:a", 1}, {"0 keep r1 f1:0:1 k0:a; 10 join n1 h1 f1:0:1 k0:a", 1}})
}

// TestAgesStale: who has a stale one has an entry with a value, older than TTL, and within TTL and Stale together (25.4).
func TestAgesStale(t *testing.T) {
	table(t, ages(by(5, 3, 4)), []row{
		// At the last tick of TTL, one further, at the last one of both together, one further.
		{"10 keep r1 v7 k0:a; 10 join n1 h2 v7 k0:a", 1}, {"10 keep r1 v7 k0:a; 14 join n1 h2 v7 k0:a", 1}, {"10 keep r1 v7 k0:a; 15 join n1 h2 v7 k0:a", -1}, {"10 keep r1 v7 k0:a; 18 join n1 h2 v7 k0:a", -1}, {"10 keep r1 v7 k0:a; 19 join n1 h2 v7 k0:a", 1}, {"10 keep r1 v7 k0:a; 99 join n1 h2 v7 k0:a", 1},
		// A failure, however old.
		{"10 keep r1 f1:0:1 k0:a; 10 join n1 h2 f1:0:1 k0:a", 1}, {"10 keep r1 f1:0:1 k0:a; 13 join n1 h2 f1:0:1 k0:a", 1}, {"10 keep r1 f1:0:1 k0:a; 15 join n1 h2 f1:0:1 k0:a", 1}, {"10 keep r1 f2:0:1 k0:a; 18 join n1 h2 f2:0:1 k0:a", 1}, {"10 keep r1 f5:0:1 k0:a; 16 join n1 h2 f5:0:1 k0:a", 1},
		// None, another outcome, of the last Keep.
		{"16 join n1 h2 v7 k0:a", 0}, {"16 join n1 h2 k0:a", 0}, {"10 join h2", 0}, {"10 keep r1 v7 k0:b; 16 join n1 h2 v7 k0:a", 1}, {"10 keep r1 v7 k0:a; 11 drop k0:a; 16 join n1 h2 v7 k0:a", 2}, {"10 keep r1 v7 k0:a; 16 join n1 h2 v8 k0:a", 1}, {"10 keep r1 v7 k0:a; 16 join n1 h2 k0:a", 1}, {"10 keep r1 k0:a; 16 join n1 h2 f1:0:1 k0:a", 1}, {"10 keep r1 v7 k0:a; 12 keep r2 v8 k0:a; 16 join n1 h2 v8 k0:a", 2}, {"10 keep r1 v7 k0:a; 12 keep r2 v8 k0:a; 17 join n1 h2 v8 k0:a; 20 join n2 h2 v8 k0:a; 21 join n3 h2 v8 k0:a", 4},
		// Whether a run is in progress is not asked, nor which run is named.
		{"10 keep r1 v7 k0:a; 15 join n1 r9 h2 v7 k0:a", -1},
		// Now is ahead of it.
		{"10 keep r1 v7 k0:a; 9 join n1 h2 v7 k0:a", 1}, {"10 keep r1 v7 k0:a; 3 join n1 h2 v7 k0:a", 1},
	})
	table(t, ages(by(0, 0, 4)), []row{{"10 keep r1 v7 k0:a; 10 join n1 h2 v7 k0:a; 13 join n1 h2 v7 k0:a; 14 join n1 h2 v7 k0:a", 3}, {"10 keep r1 f1:0:1 k0:a; 10 join n1 h2 f1:0:1 k0:a", 1}})
	table(t, ages(by(5, 0, 0)), []row{{"10 keep r1 v7 k0:a; 15 join n1 h2 v7 k0:a", 1}, {"10 keep r1 v7 k0:a; 14 join n1 h2 v7 k0:a", 1}})
	// Times that are none.
	table(t, ages(by(-1, 0, 9)), []row{{"10 keep r1 v7 k0:a; 10 join n1 h2 v7 k0:a", 1}, {"10 keep r1 v7 k0:a; 14 join n1 h2 v7 k0:a", 1}})
	table(t, ages(by(5, 0, -1)), []row{{"10 keep r1 v7 k0:a; 15 join n1 h2 v7 k0:a", 1}, {"10 keep r1 v7 k0:a; 13 join n1 h2 v7 k0:a", 1}})
	table(t, ages(by(5, -1, 4)), []row{{"10 keep r1 v7 k0:a; 15 join n1 h2 v7 k0:a", -1}})
	// By another How nothing is asked of the entry.
	table(t, ages(by(5, 3, 4)), []row{{"0 join n1 k0:a; 0 join n1 r1 h3 k0:a; 0 join n1 h4 f4:0:0 k0:a; 0 join n1 r1 h5 k0:a; 0 join n1 h6 f3:0:0 k0:a; 0 tell n1 r1 v9 k0:a; 0 begin r1 h1 k0:a; 0 begin r1 h2 k0:a", -1}})
}

// TestAgesBeyond: times whose sums are beyond all numbers, and ticks that are none (25.4).
func TestAgesBeyond(t *testing.T) {
	const most = math.MaxInt64
	o := api.Outcome{Value: 7}
	f := api.Outcome{Fail: api.Fail{Kind: api.FailLoad, Run: 1}}
	for _, r := range []struct {
		c       api.Config
		at, now int64
		o       api.Outcome
		how     int
		right   bool
	}{
		{by(most, 0, 0), 0, last, o, api.HowHit, true}, {by(last, 0, 0), 0, last, o, api.HowHit, false}, {by(last, 0, 0), 1, last, o, api.HowHit, true}, {by(last+1, 0, 0), 0, last, o, api.HowHit, true},
		{by(0, most, 0), 0, last, f, api.HowHit, true}, {by(most, last, most), 0, last, f, api.HowHit, false}, {by(0, last+1, 0), 0, last, f, api.HowHit, true},
		{by(5, 0, most), 0, last, o, api.HowStale, true}, {by(last, 0, most), 0, last, o, api.HowStale, true}, {by(last, 0, most), 1, last, o, api.HowStale, false}, {by(last, 0, 1), 0, last, o, api.HowStale, true}, {by(last, 0, 0), 0, last, o, api.HowStale, false}, {by(most, 0, most), 0, last, o, api.HowStale, false}, {by(1, 0, last-1), 0, last, o, api.HowStale, false}, {by(1, 0, last), 0, last, o, api.HowStale, true},
		// Ticks that are none.
		{by(most, most, most), -1, 0, o, api.HowHit, false}, {by(most, most, most), -1, -1, o, api.HowHit, false}, {by(most, most, most), 0, last + 1, o, api.HowHit, false}, {by(most, most, most), last + 1, last + 1, o, api.HowHit, false}, {by(most, most, most), 0, math.MaxInt64, f, api.HowHit, false}, {by(most, most, most), math.MinInt64, 5, f, api.HowHit, false}, {by(most, most, most), 5, math.MinInt64, f, api.HowHit, false}, {by(most, most, most), 5, 4, f, api.HowHit, false}, {by(most, most, most), last, 0, o, api.HowHit, false},
		{by(0, most, most), -1, 0, o, api.HowStale, false}, {by(0, most, most), -5, -1, o, api.HowStale, false}, {by(0, most, most), 0, last + 1, o, api.HowStale, false}, {by(0, most, most), last + 1, last + 1, o, api.HowStale, false}, {by(0, most, most), 5, 4, o, api.HowStale, false}, {by(0, most, most), 5, math.MinInt64, o, api.HowStale, false}, {by(0, most, most), math.MinInt64, 5, o, api.HowStale, false}, {by(0, most, most), last, last, o, api.HowStale, true}, {by(0, most, most), 0, 0, o, api.HowStale, true},
	} {
		l := []api.Event{{At: r.at, Kind: api.EventKeep, Outcome: r.o}, {At: r.now, Kind: api.EventJoin, How: r.how, Outcome: r.o}}
		want := 1
		if r.right {
			want = -1
		}
		answers(t, "Ages", ages(r.c), l, want)
	}
	for _, how := range []int{math.MinInt, -1, 7, 1<<32 + 1, 1<<32 + 2, math.MaxInt} {
		answers(t, "a How that is none", ages(usual), []api.Event{{Kind: api.EventJoin, How: how}}, -1)
	}
	for kind := range 13 {
		if kind != api.EventJoin {
			answers(t, "another kind", ages(usual), []api.Event{{Kind: kind, How: api.HowHit}, {Kind: kind, How: api.HowStale}}, -1)
		}
	}
}

// TestKeeping: no run begins whose key has a fresh value (25.4).
func TestKeeping(t *testing.T) {
	table(t, keeping(by(5, 3, 4)), []row{
		{"10 begin r1 k0:a", -1}, {"10 begin", -1},
		// A fresh value, up to the last tick of TTL; one that is stale, or old.
		{"10 keep r1 v7 k0:a; 10 begin r2 k0:a", 1}, {"10 keep r1 v7 k0:a; 14 begin r2 k0:a", 1}, {"10 keep r1 v7 k0:a; 14 begin r2 h1 k0:a", 1}, {"10 keep r1 v7 k0:a; 15 begin r2 k0:a", -1}, {"10 keep r1 v7 k0:a; 15 begin r2 h1 k0:a", -1}, {"10 keep r1 v7 k0:a; 18 begin r2 k0:a; 99 begin r3 k0:a", -1}, {"10 keep r1 k0:a; 14 begin r2 k0:a", 1}, {"0 keep; 0 begin", 1},
		// A failure, fresh or not.
		{"10 keep r1 f1:0:1 k0:a; 10 begin r2 k0:a; 12 begin r3 k0:a; 13 begin r4 k0:a", -1}, {"10 keep r1 f2:0:1 k0:a; 11 begin r2 k0:a", -1}, {"10 keep r1 f5:0:1 k0:a; 11 begin r2 k0:a", -1},
		// Of another key, or dropped, or kept anew.
		{"10 keep r1 v7 k0:a; 10 begin r2 k0:b; 10 begin r3 k1:a; 10 begin r4", -1}, {"10 keep r1 v7 k0:a; 10 drop k0:a; 10 begin r2 k0:a", -1}, {"10 keep r1 v7 k0:a; 10 drop k0:b; 10 begin r2 k0:a", 2}, {"10 keep r1 v7 k0:a; 12 keep r2 v8 k0:a; 15 begin r3 k0:a", 2}, {"10 keep r1 v7 k0:a; 12 keep r2 v8 k0:a; 17 begin r3 k0:a", -1}, {"10 keep r1 v7 k0:a; 12 keep r2 f1:0:2 k0:a; 13 begin r3 k0:a", -1}, {"10 keep r1 f1:0:1 k0:a; 12 keep r2 v7 k0:a; 16 begin r3 k0:a", 2}, {"10 keep r1 v7 k0:a; 11 drop k0:a; 12 keep r2 v7 k0:a; 16 begin r3 k0:a", 3},
		// A forgetting alone drops nothing; another event begins none.
		{"10 keep r1 v7 k0:a; 10 forget g1 k0:a; 10 begin r2 k0:a", 2}, {"10 keep r1 v7 k0:a; 10 join n1 r2 h5 k0:a; 10 send r2; 10 end r2 k0:a; 10 tell n1 r2 k0:a; 10 cancel r2 k0:a; 10 abandon r2 g1 k0:a; 10 leave n2 r2 k0:a", -1},
		// Where now is ahead of it, it is within nothing.
		{"10 keep r1 v7 k0:a; 9 begin r2 k0:a", -1}, {"10 keep r1 v7 k0:a; 0 begin r2 k0:a; 10 begin r3 k0:a", 2},
	})
	table(t, keeping(by(0, 5, 5)), []row{{"10 keep r1 v7 k0:a; 10 begin r2 k0:a", -1}})
	table(t, keeping(by(-1, 5, 5)), []row{{"10 keep r1 v7 k0:a; 10 begin r2 k0:a", -1}})
	table(t, keeping(by(5, -1, -1)), []row{{"10 keep r1 v7 k0:a; 14 begin r2 k0:a", 1}, {"10 keep r1 f1:0:1 k0:a; 10 begin r2 k0:a", -1}})
	for _, r := range []struct {
		ttl, at, now int64
		want         int
	}{
		{math.MaxInt64, 0, last, 1}, {last, 0, last, -1}, {last + 1, 0, last, 1}, {last, 1, last, 1},
		{math.MaxInt64, -1, 0, -1}, {math.MaxInt64, -1, -1, -1}, {math.MaxInt64, 0, last + 1, -1}, {math.MaxInt64, last + 1, last + 1, -1}, {math.MaxInt64, 5, -1, -1}, {math.MaxInt64, math.MinInt64, 5, -1}, {math.MaxInt64, 5, math.MaxInt64, -1}, {math.MinInt64, 5, 5, -1},
	} {
		answers(t, "Keeping", keeping(by(r.ttl, 0, 0)), []api.Event{{At: r.at, Kind: api.EventKeep}, {At: r.now, Kind: api.EventBegin}}, r.want)
	}
}
