package tally_test

import (
	"math"
	"math/big"
	"testing"

	"convoy/api"
	"convoy/tally"
)

// in is one count in each of some buckets.
func in(buckets ...int) [64]int {
	var counts [64]int
	for _, n := range buckets {
		counts[n]++
	}
	return counts
}

// twoKinds is how times are told, of those of callers and of those of runs.
type twoKinds struct {
	what     string
	from, to func(at int64, who int) api.Event
	call     func(l []api.Event) [64]int
}

var bothKinds = []twoKinds{
	{"Waits", join, func(at int64, caller int) api.Event { return tell(at, caller, 1) }, tally.Waits},
	{"Lengths", begin, end, tally.Lengths},
}

// TestBuckets: a time is counted in its bucket, at the edges of each one (26.2).
func TestBuckets(t *testing.T) {
	for _, x := range bothKinds {
		for _, r := range []struct {
			from, to int64
			bucket   int
		}{
			{0, 0, 0}, {5, 5, 0}, {last, last, 0}, {0, 1, 1}, {last - 1, last, 1}, {0, 2, 2}, {0, 3, 2}, {1, 3, 2}, {0, 4, 3}, {3, 7, 3}, {0, 5, 3}, {0, 7, 3}, {0, 8, 4}, {7, 8, 1},
			{0, 1<<31 - 1, 31}, {0, 1 << 31, 32}, {0, 1 << 32, 33}, {0, last / 2, 62}, {0, last - 1, 62}, {1, last, 62}, {0, last, 63},
		} {
			same(t, x.what, x.call([]api.Event{x.from(r.from, 1), x.to(r.to, 1)}), in(r.bucket))
		}
	}
}

// TestTimes: from the last one ahead that is of the same caller or run, if there is one, and both are at ticks, the first not behind the second (26.2).
func TestTimes(t *testing.T) {
	for _, x := range bothKinds {
		from, to := x.from, x.to
		for _, r := range []struct {
			what string
			l    []api.Event
			want [64]int
		}{
			{"one alone", []api.Event{from(0, 1)}, in()},
			{"without one ahead", []api.Event{to(5, 1)}, in()},
			{"with one behind", []api.Event{to(5, 1), from(5, 1)}, in()},
			{"with one of another ahead", []api.Event{from(0, 2), to(5, 1)}, in()},
			{"of 0 where none is there", []api.Event{from(0, 1), to(5, 0)}, in()},
			{"with several ahead", []api.Event{from(0, 1), from(3, 1), to(4, 1)}, in(1)},
			{"with several ahead that go back", []api.Event{from(3, 1), from(0, 1), to(4, 1)}, in(3)},
			{"with one ahead and one behind", []api.Event{from(0, 1), to(4, 1), from(4, 1)}, in(3)},
			{"with several ahead of several", []api.Event{from(0, 1), from(1, 2), from(2, 1), to(9, 2), to(9, 1)}, in(4, 3)},
			{"twice from one", []api.Event{from(0, 1), to(1, 1), to(2, 1)}, in(1, 2)},
			{"twice at one tick", []api.Event{from(0, 1), to(5, 1), to(5, 1)}, in(3, 3)},
			{"one behind the other", []api.Event{from(0, 1), to(5, 1), from(5, 1), to(6, 1)}, in(3, 1)},
			{"below the one ahead", []api.Event{from(5, 1), to(4, 1)}, in()},
			{"below the last one ahead", []api.Event{from(0, 1), from(5, 1), to(4, 1)}, in()},
			{"below it, and then not", []api.Event{from(5, 1), to(4, 1), to(5, 1), to(6, 1)}, in(0, 1)},
			{"from below 0", []api.Event{from(-1, 1), to(5, 1)}, in()},
			{"from behind the greatest tick", []api.Event{from(last+1, 1), to(last+2, 1)}, in()},
			{"to below 0", []api.Event{from(0, 1), to(-1, 1)}, in()},
			{"to behind the greatest tick", []api.Event{from(0, 1), to(last+1, 1)}, in()},
			{"from the least to the greatest number", []api.Event{from(math.MinInt64, 1), to(math.MaxInt64, 1)}, in()},
			{"from the greatest to the least number", []api.Event{from(math.MaxInt64, 1), to(math.MinInt64, 1)}, in()},
			{"from none, and from one ahead of that", []api.Event{from(0, 1), from(-1, 1), to(5, 1)}, in()},
			{"from none, and from one behind that", []api.Event{from(-1, 1), from(0, 1), to(5, 1)}, in(3)},
			{"none to none", []api.Event{from(-1, 1), to(-1, 1)}, in()},
			{"of numbers that nobody has", []api.Event{from(0, 0), from(1, -1), from(2, math.MinInt), from(3, math.MaxInt), from(4, 1<<32+1), to(8, 1<<32+1), to(8, math.MaxInt), to(8, math.MinInt), to(8, -1), to(8, 0), to(8, 1)}, in(3, 3, 3, 3, 4)},
		} {
			same(t, x.what+" "+r.what, x.call(r.l), r.want)
		}
	}
}

// TestWaitsAskOnlyThese: the last Join counts however it went, and of whichever run and key, and no other event does; likewise of runs (26.2).
func TestWaitsAskOnlyThese(t *testing.T) {
	for how := -1; how < 9; how++ {
		l := []api.Event{join(0, 1), of(b, by(how, join(4, 1))), of(a, tell(5, 1, 9))}
		same(t, "Waits", tally.Waits(l), in(1))
	}
	others := func(at int64, not ...int) []api.Event {
		var l []api.Event
		for kind := -1; kind < 14; kind++ {
			if kind != not[0] && kind != not[1] {
				l = append(l, api.Event{At: at, Kind: kind, Caller: 1, Run: 1, Client: 1})
			}
		}
		return l
	}
	for _, x := range bothKinds {
		from, to := x.from(2, 1), x.to(7, 1)
		l := append(others(0, from.Kind, to.Kind), from)
		l = append(l, others(6, from.Kind, to.Kind)...)
		same(t, x.what+" of one alone", x.call(l), in())
		same(t, x.what, x.call(append(l, to)), in(3))
	}
	l := []api.Event{{Kind: 1, At: 1, Caller: 1, Client: 2, Run: 3}, {Kind: 1, At: 2, Caller: 9, Client: 1, Run: 1}, tell(8, 1, 9)}
	same(t, "by the caller", tally.Waits(l), in(3))
	l = []api.Event{{Kind: 2, At: 1, Caller: 3, Run: 1, Key: a, Generation: 7}, {Kind: 2, At: 2, Caller: 1, Run: 3}, {Kind: 5, At: 8, Caller: 9, Run: 1, Key: b, Outcome: api.Outcome{Fail: api.Fail{Kind: 6}}}}
	same(t, "by the run", tally.Lengths(l), in(3))
}

// TestAdd: bucket by bucket, whatever is in them (26.2).
func TestAdd(t *testing.T) {
	var one, other, want [64]int
	for n := range one {
		one[n], other[n] = n*n-700, 3*n-90
		want[n] = n*n + 3*n - 790
	}
	same(t, "Add", tally.Add(one, other), want)
	same(t, "Add", tally.Add(other, one), want)
	same(t, "of nothing", tally.Add([64]int{}, [64]int{}), [64]int{})
	same(t, "with nothing", tally.Add(one, [64]int{}), one)
	same(t, "with nothing", tally.Add([64]int{}, one), one)
	for n := range one {
		same(t, "of one bucket", tally.Add(in(n), in(n)), in(n, n))
		same(t, "of the last bucket", tally.Add(in(n), in(63)), in(n, 63))
	}
	same(t, "of the greatest", tally.Add([64]int{math.MaxInt, math.MinInt, 5}, [64]int{math.MinInt, 0, -5}), [64]int{-1, math.MinInt, 0})
}

// quantile holds what Quantile answers against a time.
func quantile(t testing.TB, b [64]int, part, of int, want int64) {
	t.Helper()
	if got, err := tally.Quantile(b, part, of); got != want || err != api.OK {
		t.Fatalf("Quantile(%v, %d, %d): %d, %d, not %d", b, part, of, got, err, want)
	}
}

// wrongQuantile asks for the error of what may not be.
func wrongQuantile(t testing.TB, b [64]int, part, of int) {
	t.Helper()
	if got, err := tally.Quantile(b, part, of); got != 0 || err != api.ErrArg {
		t.Fatalf("Quantile(%v, %d, %d): %d, %d", b, part, of, got, err)
	}
}

// greatestByHand is the greatest time of a bucket.
func greatestByHand(bucket int) int64 { return int64(1<<uint(bucket) - 1) }

// quantileByHand is what Quantile tells of what may be, with numbers without any bound.
func quantileByHand(b [64]int, part, of int) int64 {
	all := new(big.Int)
	for _, n := range b {
		all.Add(all, big.NewInt(int64(n)))
	}
	if all.Sign() == 0 {
		return 0
	}
	want, soFar := all.Mul(all, big.NewInt(int64(part))), new(big.Int)
	for bucket, n := range b {
		soFar.Add(soFar, big.NewInt(int64(n)))
		if new(big.Int).Mul(soFar, big.NewInt(int64(of))).Cmp(want) >= 0 {
			return greatestByHand(bucket)
		}
	}
	panic("all of them are below all")
}

// TestQuantileMayBe: of and part at their edges, and of what is in the buckets (26.2).
func TestQuantileMayBe(t *testing.T) {
	some := in(0, 0, 3)
	for _, of := range []int{0, -1, -2, math.MinInt} {
		for _, part := range []int{0, 1, -1, of, of - 1, of + 1, math.MaxInt} {
			wrongQuantile(t, some, part, of)
			wrongQuantile(t, in(), part, of)
		}
	}
	for _, of := range []int{1, 2, 7, 100, math.MaxInt - 1, math.MaxInt} {
		for _, part := range []int{-1, -of, of + 1, math.MinInt, -1 << 32} {
			wrongQuantile(t, some, part, of)
			wrongQuantile(t, in(), part, of)
		}
		quantile(t, some, 0, of, 0)
		quantile(t, some, of, of, 7)
		quantile(t, in(), 0, of, 0)
		quantile(t, in(), of, of, 0)
		quantile(t, in(), of/2, of, 0)
	}
	wrongQuantile(t, some, math.MaxInt, math.MaxInt-1)
	for n := range 64 {
		for _, below := range []int{-1, math.MinInt} {
			wrong := some
			wrong[n] = below
			wrongQuantile(t, wrong, 1, 2)
			wrong[(n+1)%64] = 7
			wrongQuantile(t, wrong, 0, 1)
			wrong[(n+5)%64] = math.MaxInt
			wrongQuantile(t, wrong, 1, 1)
		}
	}
	wrongQuantile(t, [64]int{5, -5}, 1, 2)
	wrongQuantile(t, [64]int{63: -1}, 0, 1)
}

// TestQuantileTogether: all buckets together are 2^62 at most (26.2).
func TestQuantileTogether(t *testing.T) {
	for n := range 64 {
		var all [64]int
		all[n] = last
		quantile(t, all, 1, 1, greatestByHand(n))
		quantile(t, all, 1, math.MaxInt, greatestByHand(n))
		all[n]++
		wrongQuantile(t, all, 1, 1)
		wrongQuantile(t, all, 0, 1)
		all[n] = math.MaxInt
		wrongQuantile(t, all, 1, 1)
		all[n], all[(n+9)%64] = last, 1
		wrongQuantile(t, all, 1, 1)
		all[n] = last - 1
		quantile(t, all, 1, 1, max(greatestByHand(n), greatestByHand((n+9)%64)))
		all[(n+30)%64] = 1
		wrongQuantile(t, all, 1, 1)
	}
	// Sums that would pass an int, and come back to what may be.
	var all [64]int
	for n := range all {
		all[n] = last / 64
	}
	quantile(t, all, 1, 2, greatestByHand(31))
	all[5]++
	wrongQuantile(t, all, 1, 2)
	wrongQuantile(t, [64]int{last, last, last, last}, 1, 2)
	wrongQuantile(t, [64]int{last, last, last, last, 7}, 1, 2)
	wrongQuantile(t, [64]int{math.MaxInt, math.MaxInt, 5}, 1, 2)
	wrongQuantile(t, [64]int{math.MaxInt, 1, math.MaxInt, 1}, 0, 2)
}

// TestQuantile: the least bucket with which there are as many as the part of all (26.2).
func TestQuantile(t *testing.T) {
	for _, x := range []struct {
		b        [64]int
		part, of int
		want     int64
	}{
		{[64]int{2, 0, 0, 1}, 1, 2, 0}, {[64]int{2, 0, 0, 1}, 2, 3, 0}, {[64]int{2, 0, 0, 1}, 67, 100, 7}, {[64]int{2, 0, 0, 1}, 66, 100, 0},
		{[64]int{1, 0, 0, 1}, 1, 2, 0}, {[64]int{1, 0, 0, 1}, 2, 4, 0}, {[64]int{1, 0, 0, 1}, 51, 100, 7}, {[64]int{1, 1, 1, 1}, 1, 4, 0}, {[64]int{1, 1, 1, 1}, 2, 4, 1}, {[64]int{1, 1, 1, 1}, 3, 4, 3}, {[64]int{1, 1, 1, 1}, 4, 4, 7},
		{[64]int{1, 1, 1, 1}, 26, 100, 1}, {[64]int{1, 1, 1, 1}, 99, 100, 7}, {[64]int{0, 5}, 0, 9, 0}, {[64]int{0, 5}, 1, 9, 1}, {[64]int{62: 9}, 1, 2, 1<<62 - 1}, {[64]int{63: 9}, 1, 2, math.MaxInt64}, {[64]int{63: 9}, 0, 2, 0},
		{[64]int{0: 99, 63: 1}, 99, 100, 0}, {[64]int{0: 99, 63: 1}, 991, 1000, math.MaxInt64}, {[64]int{10: 1, 20: 98, 30: 1}, 1, 100, 1023}, {[64]int{10: 1, 20: 98, 30: 1}, 2, 100, 1<<20 - 1}, {[64]int{10: 1, 20: 98, 30: 1}, 99, 100, 1<<20 - 1}, {[64]int{10: 1, 20: 98, 30: 1}, 100, 100, 1<<30 - 1},
		// Products that pass an int, and those that would be less than they are, or alike.
		{[64]int{1: last / 2, 2: last / 2}, 1 << 61, 1 << 62, 1}, {[64]int{1: last / 2, 2: last / 2}, 1<<61 + 1, 1 << 62, 3}, {[64]int{1: last/2 - 1, 2: last/2 + 1}, 1 << 61, 1 << 62, 3}, {[64]int{1: last/2 - 1, 2: last/2 + 1}, 1<<61 - 1, 1 << 62, 1},
		{[64]int{1: last - 1, 2: 1}, math.MaxInt - 1, math.MaxInt, 3}, {[64]int{1: last - 1, 2: 1}, math.MaxInt - 2, math.MaxInt, 1}, {[64]int{1: 1, 2: last - 1}, 1, math.MaxInt, 1}, {[64]int{1: 1, 2: last - 1}, 2, math.MaxInt, 3}, {[64]int{1: 2, 2: last - 2}, 3, math.MaxInt, 1}, {[64]int{1: 2, 2: last - 2}, 4, math.MaxInt, 3},
		{[64]int{1: 4, 2: 4}, 1 << 62, math.MaxInt, 3}, {[64]int{1: 4, 2: 4}, 1<<62 - 1, math.MaxInt, 1}, {[64]int{1: 8, 2: 8}, 1 << 60, 1 << 61, 1}, {[64]int{1: 3, 2: 1}, 3 << 60, 1 << 62, 1}, {[64]int{1: 3, 2: 1}, 3<<60 + 1, 1 << 62, 3},
	} {
		if want := quantileByHand(x.b, x.part, x.of); want != x.want {
			t.Fatalf("%v, %d, %d: %d by hand, not %d", x.b, x.part, x.of, want, x.want)
		}
		quantile(t, x.b, x.part, x.of, x.want)
	}
	for n := range 64 {
		quantile(t, in(n), 1, math.MaxInt, greatestByHand(n))
		quantile(t, in(n), 1, 1, greatestByHand(n))
		quantile(t, in(n), 0, 1, 0)
	}
}
