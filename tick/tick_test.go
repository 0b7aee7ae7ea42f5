package tick_test

import (
	"math"
	"math/big"
	"slices"
	"testing"

	"convoy/api"
	"convoy/tick"
)

// The signatures that the chapter lists: a change of one does not compile.
var (
	_ func(int64) bool                                     = tick.Is
	_ func(int64, int64) (int64, api.Errno)                = tick.Age
	_ func(int64, int64, ...int64) (bool, api.Errno)       = tick.Within
	_ func(int64, int64) (int64, bool)                     = tick.After
	_ func(...int64) (uint64, uint64, api.Errno)           = tick.Sum
	_ func(int64) (int, api.Errno)                         = tick.Bucket
	_ func(int) (int64, int64, api.Errno)                  = tick.Edges
	_ func(int64, int) (int64, api.Errno)                  = tick.Down
	_ func(int64, int) (int64, api.Errno)                  = tick.Up
	_ func(d int64, times int, m int64) (int64, api.Errno) = tick.Double
	_ func(uint64) uint64                                  = tick.Mix
	_ func(string, uint64) uint64                          = tick.Hash
	_ func(uint64, int) (int, api.Errno)                   = tick.Part
	_ func(uint64, int) (uint64, api.Errno)                = tick.Fold
)

const longest = math.MaxInt64 // the greatest time

// numbers are the edges and their neighbours, and some between: ticks, times and neither.
func numbers() []int64 {
	l := []int64{math.MinInt64, math.MinInt64 + 1, -api.MaxTime, -5, 12345, 1000000007}
	for b := range 63 {
		p := int64(1) << b
		l = append(l, p-1, p, p+1)
	}
	l = append(l, -1, -2, longest-1, longest)
	slices.Sort(l)
	return slices.Compact(l)
}

// noTicks are numbers that are no ticks.
func noTicks() []int64 {
	return []int64{-1, -2, math.MinInt64, api.MaxTime + 1, api.MaxTime + 2, longest}
}

func isTick(t int64) bool { return 0 <= t && t <= 1<<62 }

// total is the sum of times without any bound.
func total(times []int64) *big.Int {
	sum := new(big.Int)
	for _, d := range times {
		sum.Add(sum, big.NewInt(d))
	}
	return sum
}

func TestIs(t *testing.T) {
	for _, n := range []int64{0, 1, 2, 1000, api.MaxTime - 1, api.MaxTime} {
		if !tick.Is(n) {
			t.Errorf("Is(%d): false", n)
		}
	}
	for _, n := range noTicks() {
		if tick.Is(n) {
			t.Errorf("Is(%d): true", n)
		}
	}
}

func TestAge(t *testing.T) {
	for _, c := range []struct {
		now, at, age int64
		err          api.Errno
	}{
		{0, 0, 0, api.OK},
		{7, 3, 4, api.OK},
		{api.MaxTime, 0, api.MaxTime, api.OK},
		{api.MaxTime, api.MaxTime, 0, api.OK},
		{api.MaxTime, 1, api.MaxTime - 1, api.OK},
		{3, 7, 0, api.ErrArg},
		{0, 1, 0, api.ErrArg},
		{0, api.MaxTime, 0, api.ErrArg},
		{api.MaxTime + 1, 0, 0, api.ErrTick},
		{0, api.MaxTime + 1, 0, api.ErrTick}, // now is below at, too
		{-1, 0, 0, api.ErrTick},              // and here
		{0, -1, 0, api.ErrTick},
		{math.MinInt64, longest, 0, api.ErrTick},
		{longest, math.MinInt64, 0, api.ErrTick},
	} {
		if age, err := tick.Age(c.now, c.at); age != c.age || err != c.err {
			t.Errorf("Age(%d, %d): %d, %d", c.now, c.at, age, err)
		}
	}
}

func TestWithin(t *testing.T) {
	for _, c := range []struct {
		now, at int64
		times   []int64
		is      bool
	}{
		{5, 0, []int64{5}, false},
		{5, 0, []int64{5, 1}, true},
		{5, 0, []int64{1, 5}, true},
		{5, 0, []int64{6}, true},
		{5, 0, []int64{2, 2, 2}, true},
		{5, 0, []int64{0, 0, 5}, false},
		{9, 4, []int64{5}, false},
		{9, 4, []int64{6}, true},
		{0, 0, nil, false},
		{0, 0, []int64{}, false},
		{0, 0, []int64{0}, false},
		{0, 0, []int64{1}, true},
		{api.MaxTime, 0, nil, false},
		{api.MaxTime, 0, []int64{api.MaxTime}, false},
		{api.MaxTime, 0, []int64{api.MaxTime, 1}, true},
		{api.MaxTime, 0, []int64{api.MaxTime - 1, 1}, false},
		{api.MaxTime, 0, []int64{longest}, true},
		{api.MaxTime, 0, []int64{longest, longest}, true},
		{api.MaxTime, 0, []int64{longest, 1}, true},             // 2^63
		{api.MaxTime, 0, []int64{longest, longest, 2}, true},    // 2^64: its low bits are 0
		{api.MaxTime, 0, []int64{longest, longest, 2, 3}, true}, // its low bits are 3
		{api.MaxTime, api.MaxTime, []int64{longest, longest, 2}, true},
	} {
		if is, err := tick.Within(c.now, c.at, c.times...); is != c.is || err != api.OK {
			t.Errorf("Within(%d, %d, %d): %v, %d", c.now, c.at, c.times, is, err)
		}
	}
}

func TestWithinErrors(t *testing.T) {
	for _, c := range []struct {
		now, at int64
		times   []int64
		err     api.Errno
	}{
		{-1, 0, []int64{5}, api.ErrTick},
		{0, -1, []int64{5}, api.ErrTick},
		{api.MaxTime + 1, 0, []int64{longest, longest}, api.ErrTick},
		{0, api.MaxTime + 1, nil, api.ErrTick},
		{1, 2, []int64{5}, api.ErrArg},
		{1, 2, nil, api.ErrArg},
		{2, 1, []int64{-1}, api.ErrTime},
		{2, 1, []int64{5, -1}, api.ErrTime},
		{2, 1, []int64{5, 5, math.MinInt64, 5}, api.ErrTime},
		{2, 1, []int64{longest, longest, 2, -1}, api.ErrTime},
		{-1, 0, []int64{-1}, api.ErrTick}, // the error that is named first
		{1, 2, []int64{-1}, api.ErrArg},
		{longest, api.MaxTime, []int64{-1}, api.ErrTick},
	} {
		if is, err := tick.Within(c.now, c.at, c.times...); is || err != c.err {
			t.Errorf("Within(%d, %d, %d): %v, %d", c.now, c.at, c.times, is, err)
		}
	}
}

// TestWithinLikeSum holds Within against sums without any bound.
func TestWithinLikeSum(t *testing.T) {
	for _, now := range numbers() {
		if !isTick(now) {
			continue
		}
		for _, a := range numbers() {
			times := []int64{a, now / 2, a}
			want := a >= 0 && big.NewInt(now).Cmp(total(times)) < 0
			is, err := tick.Within(now, 0, times...)
			if is != want || (err == api.OK) != (a >= 0) {
				t.Fatalf("Within(%d, 0, %d): %v, %d", now, times, is, err)
			}
		}
	}
}

func TestAfter(t *testing.T) {
	for _, c := range []struct {
		t, d, after int64
		ok          bool
	}{
		{0, 0, 0, true},
		{3, 4, 7, true},
		{0, api.MaxTime, api.MaxTime, true},
		{api.MaxTime, 0, api.MaxTime, true},
		{api.MaxTime - 1, 1, api.MaxTime, true},
		{api.MaxTime, 1, api.MaxTime, false},
		{1, api.MaxTime, api.MaxTime, false},
		{0, api.MaxTime + 1, api.MaxTime, false},
		{0, longest, api.MaxTime, false},
		{1, longest, api.MaxTime, false}, // 2^63
		{api.MaxTime, longest, api.MaxTime, false},
		{-1, 5, 0, false},
		{5, -1, 0, false},
		{api.MaxTime, -1, 0, false},
		{api.MaxTime + 1, 0, 0, false},
		{api.MaxTime + 1, -1, 0, false},
		{longest, longest, 0, false},
		{math.MinInt64, math.MinInt64, 0, false},
		{0, math.MinInt64, 0, false},
	} {
		if after, ok := tick.After(c.t, c.d); after != c.after || ok != c.ok {
			t.Errorf("After(%d, %d): %d, %v", c.t, c.d, after, ok)
		}
	}
}

// TestAfterLikeSum holds After against sums without any bound.
func TestAfterLikeSum(t *testing.T) {
	for _, at := range numbers() {
		for _, d := range numbers() {
			var want int64
			ok := false
			if isTick(at) && d >= 0 {
				want = api.MaxTime
				if sum := total([]int64{at, d}); sum.Cmp(big.NewInt(api.MaxTime)) <= 0 {
					want, ok = sum.Int64(), true
				}
			}
			if after, is := tick.After(at, d); after != want || is != ok {
				t.Fatalf("After(%d, %d): %d, %v", at, d, after, is)
			}
		}
	}
}

func TestSum(t *testing.T) {
	for _, c := range []struct {
		times     []int64
		high, low uint64
		err       api.Errno
	}{
		{nil, 0, 0, api.OK},
		{[]int64{}, 0, 0, api.OK},
		{[]int64{0}, 0, 0, api.OK},
		{[]int64{0, 0, 0}, 0, 0, api.OK},
		{[]int64{3, 4, 5}, 0, 12, api.OK},
		{[]int64{longest}, 0, longest, api.OK},
		{[]int64{longest, 1}, 0, 1 << 63, api.OK},
		{[]int64{longest, longest}, 0, 1<<64 - 2, api.OK},
		{[]int64{longest, longest, 1}, 0, 1<<64 - 1, api.OK},
		{[]int64{longest, longest, 2}, 1, 0, api.OK},
		{[]int64{2, longest, longest, 5}, 1, 5, api.OK},
		{[]int64{longest, longest, longest, longest, 4}, 2, 0, api.OK},
		{[]int64{longest, longest, longest, longest, 3}, 1, 1<<64 - 1, api.OK},
		{[]int64{-1}, 0, 0, api.ErrTime},
		{[]int64{math.MinInt64}, 0, 0, api.ErrTime},
		{[]int64{-1, 5}, 0, 0, api.ErrTime},
		{[]int64{5, 6, -1}, 0, 0, api.ErrTime},
		{[]int64{longest, longest, 2, 7, -1}, 0, 0, api.ErrTime},
	} {
		if high, low, err := tick.Sum(c.times...); high != c.high || low != c.low || err != c.err {
			t.Errorf("Sum(%d): %d, %d, %d", c.times, high, low, err)
		}
	}
}

// TestSumOfMany lets the carry come often, and holds each sum against one without any bound.
func TestSumOfMany(t *testing.T) {
	var times []int64
	for n := range 200 {
		times = append(times, longest-int64(n)*int64(n))
		high, low, err := tick.Sum(times...)
		got := new(big.Int).SetUint64(high)
		got.Lsh(got, 64).Add(got, new(big.Int).SetUint64(low))
		if err != api.OK || got.Cmp(total(times)) != 0 {
			t.Fatalf("the sum of %d times: %d, %d, %d", n+1, high, low, err)
		}
	}
}

// TestTimesStay tells that what is handed in is as it was (R4).
func TestTimesStay(t *testing.T) {
	room := []int64{4, longest, 0, 9, 77, 78}
	same := slices.Clone(room)
	tick.Sum(room[:4]...)
	tick.Within(9, 3, room[:4]...)
	if !slices.Equal(room, same) {
		t.Error(room)
	}
}
