package retry_test

import (
	"math"
	"math/big"
	"slices"
	"testing"

	"convoy/api"
	"convoy/retry"
	"convoy/tick"
)

// The calls are those that the chapter lists: a change of one does not compile.
var (
	_ func(api.Retry) api.Errno                             = retry.Check
	_ func(api.Retry, int, uint64) (int64, bool, api.Errno) = retry.Wait
	_ func(api.Retry, uint64) ([]int64, api.Errno)          = retry.Waits
	_ func(api.Retry) (uint64, uint64, api.Errno)           = retry.Whole
)

const (
	last    = 1 << 62        // the last tick
	longest = math.MaxInt64  // the greatest time
	most    = 64             // tries of a plan
	lastLot = math.MaxUint64 // the greatest seed
)

// plan is a plan, its fields in the chapter's order.
func plan(base, most int64, tries, spread int) api.Retry {
	return api.Retry{Base: base, Most: most, Tries: tries, Spread: spread}
}

// noPlans is plans that may not be: each field alone, and several at once.
var noPlans = []api.Retry{
	plan(-1, 50, 5, 0), plan(math.MinInt64, 50, 5, 0),
	plan(10, -1, 5, 0), plan(10, math.MinInt64, 5, 0),
	plan(10, 50, 0, 0), plan(10, 50, -1, 0), plan(10, 50, math.MinInt, 0),
	plan(10, 50, 65, 0), plan(10, 50, 66, 0), plan(10, 50, math.MaxInt, 0),
	plan(10, 50, 5, -1), plan(10, 50, 5, math.MinInt),
	plan(10, 50, 5, 257), plan(10, 50, 5, 258), plan(10, 50, 5, math.MaxInt),
	plan(-1, -1, 5, 0), plan(-1, 50, 0, 0), plan(10, -1, 65, 256), plan(-1, -1, 0, -1),
	plan(0, 0, 0, 0), plan(longest, longest, 65, 257), plan(math.MinInt64, math.MinInt64, math.MinInt, math.MinInt),
}

// plans is plans that may be: at the edges of each field, and between them.
func plans() []api.Retry {
	var all []api.Retry
	times := []int64{0, 1, 3, 255, 256, 1000, 1<<32 - 1, 1 << 32, 1<<55 + 1, last - 1, last, longest - 1, longest}
	for _, base := range times {
		for _, top := range times {
			for _, tries := range []int{1, 2, 5, most - 1, most} {
				for _, spread := range []int{0, 1, 100, 255, 256} {
					all = append(all, plan(base, top, tries, spread))
				}
			}
		}
	}
	return all
}

// seeds is seeds, the least and the greatest among them, and those with which n passes 2^64.
var seeds = []uint64{0, 1, 7, 1 << 32, 1 << 63, lastLot - 63, lastLot - 1, lastLot}

// byHand works the wait behind a try out in numbers without any bound.
func byHand(r api.Retry, n int, seed uint64) int64 {
	w := new(big.Int).Lsh(big.NewInt(r.Base), uint(n-1))
	if top := big.NewInt(r.Most); w.Cmp(top) > 0 {
		w = top
	}
	part := new(big.Int).Mul(w, big.NewInt(int64(r.Spread)))
	part.Div(part, big.NewInt(256))
	place := new(big.Int).Add(new(big.Int).SetUint64(seed), big.NewInt(int64(n)))
	place.Mod(place, new(big.Int).Lsh(big.NewInt(1), 64))
	part.Mul(part, big.NewInt(int64(tick.Mix(place.Uint64())>>32)))
	part.Div(part, big.NewInt(1<<32))
	return w.Sub(w, part).Int64()
}

// waitIs holds the wait behind a try that has a further one against a time.
func waitIs(t *testing.T, r api.Retry, n int, seed uint64, want int64) {
	t.Helper()
	if got, more, err := retry.Wait(r, n, seed); got != want || !more || err != api.OK {
		t.Fatalf("Wait(%v, %d, %d): %d, %t, %d, not %d", r, n, seed, got, more, err, want)
	}
}

// noWait looks that there is no wait behind some tries, with an error or with OK.
func noWait(t *testing.T, want api.Errno, r api.Retry, tries ...int) {
	t.Helper()
	for _, n := range tries {
		for _, seed := range seeds {
			if got, more, err := retry.Wait(r, n, seed); got != 0 || more || err != want {
				t.Fatalf("Wait(%v, %d, %d): %d, %t, %d, not %d", r, n, seed, got, more, err, want)
			}
		}
	}
}

// waits holds all waits of a plan against a list.
func waits(t *testing.T, r api.Retry, seed uint64, want ...int64) {
	t.Helper()
	if got, err := retry.Waits(r, seed); !slices.Equal(got, want) || err != api.OK {
		t.Fatalf("Waits(%v, %d): %v, %d, not %v", r, seed, got, err, want)
	}
}

// whole holds the sum of a plan's waits against a number.
func whole(t *testing.T, r api.Retry, high, low uint64) {
	t.Helper()
	if gotHigh, gotLow, err := retry.Whole(r); gotHigh != high || gotLow != low || err != api.OK {
		t.Fatalf("Whole(%v): %d, %d, %d, not %d, %d", r, gotHigh, gotLow, err, high, low)
	}
}

// TestExample plays the chapter's example.
func TestExample(t *testing.T) {
	waits(t, plan(10, 50, 5, 0), 0, 10, 20, 40, 50)
	whole(t, plan(10, 50, 5, 0), 0, 120)
	noWait(t, api.OK, plan(1, 1, 1, 0), 1)
	b := of(t, 2, 5)
	done(t, b, 0, false)
	done(t, b, 1, false)
	isOpen(t, b, 6)
	ask(t, b, 5, false)
	ask(t, b, 6, true)
	ask(t, b, 6, false)
	done(t, b, 7, true)
	isShut(t, b)
}

// TestCheck: plans that may be, at both edges of each field; Base may be above Most (17.1).
func TestCheck(t *testing.T) {
	good := append(plans(), plan(0, 0, 1, 0), plan(50, 10, 5, 0), plan(longest, 0, 64, 256), plan(0, longest, 1, 256))
	for _, r := range good {
		if err := retry.Check(r); err != api.OK {
			t.Fatalf("Check(%v): %d", r, err)
		}
	}
	if most != api.MaxTries || last != api.MaxTime {
		t.Fatal("the limits are others")
	}
}

// TestNoPlan: a plan that may not be is ErrPlan in every call, ahead of a try that may not be (17.1).
func TestNoPlan(t *testing.T) {
	for _, r := range noPlans {
		if err := retry.Check(r); err != api.ErrPlan {
			t.Fatalf("Check(%v): %d", r, err)
		}
		noWait(t, api.ErrPlan, r, math.MinInt, -1, 0, 1, 2, 5, 64, 65, math.MaxInt)
		for _, seed := range seeds {
			if got, err := retry.Waits(r, seed); len(got) != 0 || err != api.ErrPlan {
				t.Fatalf("Waits(%v, %d): %v, %d", r, seed, got, err)
			}
		}
		if high, low, err := retry.Whole(r); high != 0 || low != 0 || err != api.ErrPlan {
			t.Fatalf("Whole(%v): %d, %d, %d", r, high, low, err)
		}
	}
}

// TestNoPlanLikeRanges holds Check against the ranges, of all fields at once (17.1).
func TestNoPlanLikeRanges(t *testing.T) {
	times := []int64{math.MinInt64, -1, 0, 1, longest}
	within := func(x, from, to int) bool { return from <= x && x <= to }
	for _, base := range times {
		for _, top := range times {
			for _, tries := range []int{math.MinInt, -1, 0, 1, 64, 65, math.MaxInt} {
				for _, spread := range []int{math.MinInt, -1, 0, 1, 256, 257, math.MaxInt} {
					want := api.ErrPlan
					if base >= 0 && top >= 0 && within(tries, 1, 64) && within(spread, 0, 256) {
						want = api.OK
					}
					if err := retry.Check(plan(base, top, tries, spread)); err != want {
						t.Fatalf("Check(%d, %d, %d, %d): %d", base, top, tries, spread, err)
					}
				}
			}
		}
	}
}

// TestWaitTries: which tries may not be, which have a wait behind them, and which are the last one or above it (17.1).
func TestWaitTries(t *testing.T) {
	for _, tries := range []int{1, 2, 3, 5, most - 1, most} {
		r := plan(7, 7, tries, 0)
		noWait(t, api.ErrArg, r, 0, -1, -2, -tries, math.MinInt, math.MinInt+1)
		for n := 1; n < tries; n++ {
			waitIs(t, r, n, 9, 7)
		}
		noWait(t, api.OK, r, tries, tries+1, 64, 65, 66, 1000, math.MaxInt-1, math.MaxInt)
	}
}

// TestWaitDoubles: without Spread, whatever the seed: doubled, but not above Most, though it would pass the greatest time (17.1).
func TestWaitDoubles(t *testing.T) {
	for _, c := range []struct {
		base, top int64
		n         int
		want      int64
	}{
		{3, 100, 1, 3}, {3, 100, 2, 6}, {3, 100, 5, 48}, {3, 100, 6, 96}, {3, 100, 7, 100}, {3, 100, 63, 100},
		{3, 96, 6, 96}, {3, 97, 6, 96}, {3, 95, 6, 95},
		{0, 0, 1, 0}, {0, 50, 1, 0}, {0, longest, 63, 0}, {10, 0, 1, 0}, {longest, 0, 63, 0},
		{50, 10, 1, 10}, {50, 10, 63, 10}, {50, 50, 1, 50}, {50, 50, 2, 50}, {51, 50, 1, 50}, {longest, 1, 2, 1},
		{1, longest, 62, 1 << 61}, {1, longest, 63, 1 << 62}, {2, longest, 62, 1 << 62}, {2, longest, 63, longest},
		{3, longest, 62, 3 << 61}, {3, longest, 63, longest}, {5, last, 63, last}, {1 << 33, longest, 63, longest},
		{longest, longest, 1, longest}, {longest, longest, 2, longest}, {longest, longest, 63, longest},
		{longest - 1, longest, 1, longest - 1}, {longest - 1, longest, 2, longest}, {last, longest - 1, 2, longest - 1},
	} {
		for _, seed := range seeds {
			waitIs(t, plan(c.base, c.top, most, 0), c.n, seed, c.want)
		}
	}
}

// TestWaitSpread: what is taken off, of numbers that were worked out apart (17.1).
func TestWaitSpread(t *testing.T) {
	for _, c := range []struct {
		base, top int64
		spread, n int
		seed      uint64
		want      int64
	}{
		{1000, 1000, 256, 1, 0, 662}, {1000, 1000, 128, 1, 0, 831}, {1000, 1000, 255, 1, 0, 664}, {1000, 1000, 1, 1, 0, 999},
		{1000, 1000, 256, 2, 0, 142}, {1000, 1000, 256, 1, 1, 142}, // the seed and n together
		{1000, 1000, 256, 1, lastLot, 1000}, // of 0, by which nothing is taken off
		{1000, 1000, 256, 2, lastLot, 662}, {1000, 1000, 256, 1, lastLot - 1, 294},
		{10, 50, 256, 1, 7, 2}, {10, 50, 256, 2, 7, 10}, {10, 50, 256, 3, 7, 39}, {10, 50, 256, 4, 7, 40},
		{255, 255, 1, 2, 0, 255},                                                               // less than one part of 256
		{300, 300, 1, 2, 0, 300},                                                               // rounded down twice: of one part, no more
		{1, 1, 256, 1, 0, 1}, {2, 2, 256, 1, 0, 2}, {3, 3, 256, 1, 0, 2}, {2, 2, 256, 2, 0, 1}, // rounded down, not up
		{longest, longest, 256, 1, 0, 6104335663019065344}, {longest, longest, 255, 1, 0, 6116519398854361088},
		{longest, longest, 1, 1, 0, 9211188301019480064}, {longest, longest, 128, 2, 0, 5263425771703107584},
		{longest, longest, 256, 63, lastLot, 7028082671251095552}, {longest - 1, longest, 256, 1, 12345, 1167603738639073280},
		{1, longest, 256, 63, 5, 4003498515580846080}, {3, longest, 200, 63, 5, 8273079063657054208},
		{last, longest, 256, 1, lastLot, last}, {last, longest, 256, 2, lastLot, 6104335663019065344},
	} {
		waitIs(t, plan(c.base, c.top, most, c.spread), c.n, c.seed, c.want)
		// How many tries there are does not alter a wait.
		waitIs(t, plan(c.base, c.top, c.n+1, c.spread), c.n, c.seed, c.want)
	}
}

// TestWaitLikeByHand holds waits, and all waits of a plan, against numbers without any bound (17.1).
func TestWaitLikeByHand(t *testing.T) {
	for _, r := range plans() {
		for _, seed := range seeds {
			var want []int64
			for n := 1; n < r.Tries; n++ {
				w := byHand(r, n, seed)
				waitIs(t, r, n, seed, w)
				want = append(want, w)
			}
			waits(t, r, seed, want...)
		}
	}
}

// TestWaits: of one try none, of 64 the waits behind 63 of them (17.1).
func TestWaits(t *testing.T) {
	for _, seed := range seeds {
		waits(t, plan(10, 50, 1, 0), seed)
		waits(t, plan(longest, longest, 1, 256), seed)
		waits(t, plan(10, 50, 2, 0), seed, 10)
		waits(t, plan(50, 10, 4, 0), seed, 10, 10, 10)
		waits(t, plan(0, 50, 4, 256), seed, 0, 0, 0)
		var powers []int64
		for n := range most - 1 {
			powers = append(powers, 1<<n)
		}
		waits(t, plan(1, longest, most, 0), seed, powers...)
		waits(t, plan(2, longest, most, 0), seed, append(powers[1:], longest)...)
	}
	waits(t, plan(10, 50, 5, 256), 7, 2, 10, 39, 40)
	waits(t, plan(1000, 1000, 4, 256), lastLot, 1000, 662, 142)
}

// TestWaitsIsNewMemory: what Waits tells shares nothing with another answer, spare room too (R4).
func TestWaitsIsNewMemory(t *testing.T) {
	for tries := 1; tries <= most; tries++ {
		r := plan(10, 50, tries, 256)
		got, _ := retry.Waits(r, 7)
		other, _ := retry.Waits(r, 7)
		want := slices.Clone(got)
		other = other[:cap(other)]
		for i := range other {
			other[i] = 99
		}
		if !slices.Equal(got, want) {
			t.Fatalf("spoilt with another answer: %v, not %v", got, want)
		}
		waits(t, r, 7, want...)
	}
}

// TestWhole: the sum of all waits at most, with more than 64 bits too; Spread does not alter it (17.1).
func TestWhole(t *testing.T) {
	for _, spread := range []int{0, 1, 128, 256} {
		whole(t, plan(10, 50, 5, spread), 0, 120)
		whole(t, plan(10, 50, 1, spread), 0, 0)
		whole(t, plan(10, 50, 2, spread), 0, 10)
		whole(t, plan(50, 10, 4, spread), 0, 30)
		whole(t, plan(0, longest, most, spread), 0, 0)
		whole(t, plan(longest, 0, most, spread), 0, 0)
		whole(t, plan(1, longest, most, spread), 0, 1<<63-1)
		whole(t, plan(2, longest, most, spread), 0, 1<<64-3)
		whole(t, plan(longest, longest, 2, spread), 0, longest)
		whole(t, plan(longest, longest, 3, spread), 0, 1<<64-2)
		whole(t, plan(longest, longest, 4, spread), 1, 1<<63-3)
		whole(t, plan(longest, longest, most, spread), 31, 1<<63-63)
	}
}

// TestWholeLikeByHand holds the sum against one without any bound (17.1).
func TestWholeLikeByHand(t *testing.T) {
	for _, r := range plans() {
		sum := new(big.Int)
		for n := 1; n < r.Tries; n++ {
			w := new(big.Int).Lsh(big.NewInt(r.Base), uint(n-1))
			if top := big.NewInt(r.Most); w.Cmp(top) > 0 {
				w = top
			}
			sum.Add(sum, w)
		}
		low := new(big.Int).And(sum, new(big.Int).SetUint64(math.MaxUint64)).Uint64()
		whole(t, r, sum.Rsh(sum, 64).Uint64(), low)
	}
}
