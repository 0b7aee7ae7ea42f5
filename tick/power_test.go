package tick_test

import (
	"math"
	"math/big"
	"testing"

	"convoy/api"
	"convoy/tick"
)

// noBits are numbers of bits that no tick is rounded to.
func noBits() []int {
	return []int{-1, -2, -64, math.MinInt, 63, 64, 65, 128, math.MaxInt}
}

func TestBucket(t *testing.T) {
	for _, c := range []struct {
		d      int64
		bucket int
		err    api.Errno
	}{
		{0, 0, api.OK},
		{1, 1, api.OK},
		{2, 2, api.OK},
		{3, 2, api.OK},
		{4, 3, api.OK},
		{7, 3, api.OK},
		{8, 4, api.OK},
		{api.MaxTime - 1, 62, api.OK},
		{api.MaxTime, 63, api.OK},
		{longest, 63, api.OK},
		{-1, 0, api.ErrTime},
		{math.MinInt64, 0, api.ErrTime},
	} {
		if bucket, err := tick.Bucket(c.d); bucket != c.bucket || err != c.err {
			t.Errorf("Bucket(%d): %d, %d", c.d, bucket, err)
		}
	}
}

func TestEdges(t *testing.T) {
	for _, c := range []struct {
		bucket   int
		from, to int64
		err      api.Errno
	}{
		{0, 0, 0, api.OK},
		{1, 1, 1, api.OK},
		{2, 2, 3, api.OK},
		{3, 4, 7, api.OK},
		{62, 1 << 61, api.MaxTime - 1, api.OK},
		{63, api.MaxTime, longest, api.OK},
		{-1, 0, 0, api.ErrArg},
		{64, 0, 0, api.ErrArg},
		{65, 0, 0, api.ErrArg},
		{math.MaxInt, 0, 0, api.ErrArg},
		{math.MinInt, 0, 0, api.ErrArg},
	} {
		if from, to, err := tick.Edges(c.bucket); from != c.from || to != c.to || err != c.err {
			t.Errorf("Edges(%d): %d, %d, %d", c.bucket, from, to, err)
		}
	}
}

func TestRound(t *testing.T) {
	for _, c := range []struct {
		t        int64
		bits     int
		down, up int64
	}{
		{0, 0, 0, 0},
		{0, 1, 0, 0},
		{0, 62, 0, 0},
		{5, 0, 5, 5},
		{5, 1, 4, 6},
		{5, 2, 4, 8},
		{8, 2, 8, 8},
		{8, 3, 8, 8},
		{7, 3, 0, 8},
		{9, 3, 8, 16},
		{1, 62, 0, api.MaxTime},
		{api.MaxTime - 1, 0, api.MaxTime - 1, api.MaxTime - 1},
		{api.MaxTime - 1, 1, api.MaxTime - 2, api.MaxTime},
		{api.MaxTime - 1, 61, 1 << 61, api.MaxTime},
		{api.MaxTime - 1, 62, 0, api.MaxTime},
		{api.MaxTime, 0, api.MaxTime, api.MaxTime},
		{api.MaxTime, 1, api.MaxTime, api.MaxTime},
		{api.MaxTime, 61, api.MaxTime, api.MaxTime},
		{api.MaxTime, 62, api.MaxTime, api.MaxTime},
	} {
		if down, err := tick.Down(c.t, c.bits); down != c.down || err != api.OK {
			t.Errorf("Down(%d, %d): %d, %d", c.t, c.bits, down, err)
		}
		if up, err := tick.Up(c.t, c.bits); up != c.up || err != api.OK {
			t.Errorf("Up(%d, %d): %d, %d", c.t, c.bits, up, err)
		}
	}
}

func TestRoundErrors(t *testing.T) {
	wrong := func(at int64, bits int, want api.Errno) {
		t.Helper()
		if down, err := tick.Down(at, bits); down != 0 || err != want {
			t.Errorf("Down(%d, %d): %d, %d", at, bits, down, err)
		}
		if up, err := tick.Up(at, bits); up != 0 || err != want {
			t.Errorf("Up(%d, %d): %d, %d", at, bits, up, err)
		}
	}
	for _, at := range noTicks() {
		for _, bits := range []int{0, 1, 62} {
			wrong(at, bits, api.ErrTick)
		}
		for _, bits := range noBits() {
			wrong(at, bits, api.ErrTick)
		}
	}
	for _, bits := range noBits() {
		for _, at := range []int64{0, 1, 5, api.MaxTime} {
			wrong(at, bits, api.ErrBits)
		}
	}
}

// TestRoundIsNearest tells that both are multiples, and that none lies nearer.
func TestRoundIsNearest(t *testing.T) {
	for _, at := range numbers() {
		if !isTick(at) {
			continue
		}
		for bits := range 63 {
			size := int64(1) << bits
			down, err := tick.Down(at, bits)
			if err != api.OK || down%size != 0 || down > at || at-down >= size {
				t.Fatalf("Down(%d, %d): %d, %d", at, bits, down, err)
			}
			up, err := tick.Up(at, bits)
			if err != api.OK || !isTick(up) || up%size != 0 || up < at || up-at >= size {
				t.Fatalf("Up(%d, %d): %d, %d", at, bits, up, err)
			}
		}
	}
}

func TestDouble(t *testing.T) {
	for _, c := range []struct {
		d     int64
		times int
		most  int64
		want  int64
		err   api.Errno
	}{
		{3, 2, 100, 12, api.OK},
		{1, 1000, 100, 100, api.OK},
		{3, 0, 100, 3, api.OK},
		{100, 0, 3, 3, api.OK},
		{3, 2, 12, 12, api.OK},
		{3, 2, 11, 11, api.OK},
		{3, 2, 0, 0, api.OK},
		{0, 0, 0, 0, api.OK},
		{0, 5, 100, 0, api.OK},
		{0, 64, longest, 0, api.OK},
		{0, math.MaxInt, longest, 0, api.OK},
		{1, 62, longest, api.MaxTime, api.OK},
		{1, 63, longest, longest, api.OK},
		{1, 64, longest, longest, api.OK},
		{1, 65, longest, longest, api.OK},
		{2, 63, longest, longest, api.OK}, // 2^64: its low bits are 0
		{3, 62, longest, longest, api.OK},
		{1, math.MaxInt, longest, longest, api.OK},
		{1, math.MaxInt, 0, 0, api.OK},
		{longest, 0, longest, longest, api.OK},
		{longest, 1, longest, longest, api.OK},
		{longest, 1, 5, 5, api.OK},
		{longest / 2, 1, longest, longest - 1, api.OK},
		{-1, 2, 100, 0, api.ErrTime},
		{3, 2, -1, 0, api.ErrTime},
		{math.MinInt64, 0, math.MinInt64, 0, api.ErrTime},
		{3, -1, 100, 0, api.ErrArg},
		{3, math.MinInt, 100, 0, api.ErrArg},
		{0, -1, 0, 0, api.ErrArg},
		{-1, -1, 100, 0, api.ErrTime}, // the error that is named first
		{3, -1, -1, 0, api.ErrTime},
	} {
		if got, err := tick.Double(c.d, c.times, c.most); got != c.want || err != c.err {
			t.Errorf("Double(%d, %d, %d): %d, %d", c.d, c.times, c.most, got, err)
		}
	}
}

// TestDoubleLikeProduct holds Double against products without any bound.
func TestDoubleLikeProduct(t *testing.T) {
	bounds := []int64{0, 1, 99, 1 << 40, api.MaxTime, api.MaxTime + 1, longest - 1, longest}
	for _, d := range numbers() {
		if d < 0 {
			continue
		}
		for times := range 70 {
			product := new(big.Int).Lsh(big.NewInt(d), uint(times))
			for _, most := range bounds {
				want := most
				if product.Cmp(big.NewInt(most)) < 0 {
					want = product.Int64()
				}
				if got, err := tick.Double(d, times, most); got != want || err != api.OK {
					t.Fatalf("Double(%d, %d, %d): %d, %d", d, times, most, got, err)
				}
			}
		}
	}
}
