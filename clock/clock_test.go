package clock_test

import (
	"math"
	"slices"
	"testing"

	"convoy/api"
	"convoy/clock"
)

// The calls are those that the chapter lists: a change of one does not compile.
var (
	_ func() *clock.Clock                               = clock.New
	_ func(*clock.Clock) int64                          = (*clock.Clock).Now
	_ func(*clock.Clock, int64) (int, api.Errno)        = (*clock.Clock).Arm
	_ func(*clock.Clock, int64) (int, api.Errno)        = (*clock.Clock).In
	_ func(*clock.Clock, int) bool                      = (*clock.Clock).Stop
	_ func(*clock.Clock) []api.Ring                     = (*clock.Clock).Armed
	_ func(*clock.Clock) (api.Ring, bool)               = (*clock.Clock).Next
	_ func(*clock.Clock, int64) ([]api.Ring, api.Errno) = (*clock.Clock).Advance
	_ func(*clock.Clock) ([]api.Ring, bool)             = (*clock.Clock).Leap
	_ func(*clock.Clock, int) (int64, bool)             = (*clock.Clock).Left
	_ func(*clock.Clock) *clock.Clock                   = (*clock.Clock).Clone
)

const (
	last    = 1 << 62       // the last tick
	longest = math.MaxInt64 // the greatest time
	most    = 65536         // timers that may be armed
)

// noTicks is numbers that are no ticks.
var noTicks = []int64{-1, -2, -last, math.MinInt64, math.MinInt64 + 1, last + 1, last + 2, longest}

// noTimes is numbers that are no times.
var noTimes = []int64{-1, -2, -last, math.MinInt64, math.MinInt64 + 1}

// noTimers is numbers that no timer of these tests has.
var noTimers = []int{0, -1, math.MinInt, math.MaxInt, most * 4}

func ring(timer int, at int64) api.Ring { return api.Ring{Timer: timer, At: at} }

// arm arms timers for ticks, and holds their numbers against those that come next.
func arm(t *testing.T, c *clock.Clock, number int, ticks ...int64) {
	t.Helper()
	for i, at := range ticks {
		if timer, err := c.Arm(at); timer != number+i || err != api.OK {
			t.Fatalf("Arm(%d): %d, %d, not timer %d", at, timer, err, number+i)
		}
	}
}

// clockAt is a clock that went on to a tick.
func clockAt(t *testing.T, now int64) *clock.Clock {
	t.Helper()
	c := clock.New()
	advance(t, c, now)
	same(t, c, now)
	return c
}

// armed is a clock at 0 with timers 1, 2 .. for ticks.
func armed(t *testing.T, ticks ...int64) *clock.Clock {
	t.Helper()
	c := clock.New()
	arm(t, c, 1, ticks...)
	return c
}

// advance lets c go on, and holds what rang against a list.
func advance(t *testing.T, c *clock.Clock, d int64, want ...api.Ring) {
	t.Helper()
	if got, err := c.Advance(d); !slices.Equal(got, want) || err != api.OK {
		t.Fatalf("Advance(%d): %v, %d, not %v", d, got, err, want)
	}
}

// leap lets c go on to its first timer, and holds what rang against a list.
func leap(t *testing.T, c *clock.Clock, want ...api.Ring) {
	t.Helper()
	if got, ok := c.Leap(); !slices.Equal(got, want) || !ok {
		t.Fatalf("Leap: %v, %t, not %v", got, ok, want)
	}
}

// same holds all that can be asked of c against where it stands and what is armed.
func same(t *testing.T, c *clock.Clock, now int64, want ...api.Ring) {
	t.Helper()
	if got := c.Now(); got != now {
		t.Fatalf("Now: %d, not %d", got, now)
	}
	if got := c.Armed(); !slices.Equal(got, want) {
		t.Fatalf("Armed: %v, not %v", got, want)
	}
	first, ok := c.Next()
	if ok != (len(want) > 0) || ok && first != want[0] || !ok && first != ring(0, 0) {
		t.Fatalf("Next: %v, %t of %v", first, ok, want)
	}
	for _, r := range want {
		if left, ok := c.Left(r.Timer); left != r.At-now || !ok {
			t.Fatalf("Left(%d) at %d: %d, %t in %v", r.Timer, now, left, ok, want)
		}
	}
	for _, timer := range noTimers {
		notArmed(t, c, timer)
	}
}

// notArmed tells that there is nothing to be known of a timer, and nothing to be stopped.
func notArmed(t *testing.T, c *clock.Clock, timer int) {
	t.Helper()
	if left, ok := c.Left(timer); left != 0 || ok {
		t.Fatalf("Left(%d): %d, %t", timer, left, ok)
	}
	if c.Stop(timer) {
		t.Fatalf("Stop(%d): true", timer)
	}
}

// TestNew: nothing is armed on it (5.1, 5.2).
func TestNew(t *testing.T) {
	c := clock.New()
	if c == nil {
		t.Fatal("New: nil")
	}
	same(t, c, 0)
	notArmed(t, c, 1)
	if rings, ok := c.Leap(); len(rings) != 0 || ok {
		t.Errorf("Leap: %v, %t", rings, ok)
	}
	same(t, c, 0)
	advance(t, c, 0)
	same(t, c, 0)
	advance(t, c, 7)
	same(t, c, 7)
	if rings, ok := c.Leap(); len(rings) != 0 || ok {
		t.Errorf("Leap at 7: %v, %t", rings, ok)
	}
	same(t, c, 7)
}

// TestArm: numbers by the order in which they are armed, order by ticks, of one tick by numbers (5.1, 5.2).
func TestArm(t *testing.T) {
	c := armed(t, last, 0, 7, last-1, 1, 7, 0, last, 7)
	same(t, c, 0, ring(2, 0), ring(7, 0), ring(5, 1), ring(3, 7), ring(6, 7), ring(9, 7), ring(4, last-1), ring(1, last), ring(8, last))
}

// TestArmNoTick: ErrTick, wherever the clock stands (5.1).
func TestArmNoTick(t *testing.T) {
	for _, now := range []int64{0, 1, 7, last - 1, last} {
		c := clockAt(t, now)
		for _, at := range noTicks {
			if timer, err := c.Arm(at); timer != 0 || err != api.ErrTick {
				t.Errorf("Arm(%d) at %d: %d, %d", at, now, timer, err)
			}
		}
		same(t, c, now)
		arm(t, c, 1, now)
		same(t, c, now, ring(1, now))
	}
}

// TestArmPast: ErrPast of what has been, but not of now (5.1).
func TestArmPast(t *testing.T) {
	for _, now := range []int64{1, 2, 7, last - 1, last} {
		c := clockAt(t, now)
		for _, at := range []int64{0, now / 2, now - 1} {
			if timer, err := c.Arm(at); timer != 0 || err != api.ErrPast {
				t.Errorf("Arm(%d) at %d: %d, %d", at, now, timer, err)
			}
		}
		same(t, c, now)
		arm(t, c, 1, now, last)
		same(t, c, now, ring(1, now), ring(2, last))
	}
}

// TestIn: of 0, of some time, and of one that leads to MaxTime or above it (5.1).
func TestIn(t *testing.T) {
	for _, c := range []struct{ now, d, at int64 }{
		{0, 0, 0},
		{0, 1, 1},
		{0, 5, 5},
		{7, 0, 7},
		{7, 5, 12},
		{0, last, last},
		{0, last + 1, last},
		{0, longest, last},
		{1, last - 1, last},
		{1, last, last},
		{1, longest, last},
		{last - 1, 0, last - 1},
		{last - 1, 1, last},
		{last - 1, 2, last},
		{last, 0, last},
		{last, 1, last},
		{last, last, last},
		{last, last + 1, last},
		{last, longest - 1, last},
		{last, longest, last},
	} {
		k := clockAt(t, c.now)
		if timer, err := k.In(c.d); timer != 1 || err != api.OK {
			t.Errorf("In(%d) at %d: %d, %d", c.d, c.now, timer, err)
		}
		same(t, k, c.now, ring(1, c.at))
	}
}

// TestInNoTime: ErrTime, wherever the clock stands (5.1).
func TestInNoTime(t *testing.T) {
	for _, now := range []int64{0, 7, last} {
		c := clockAt(t, now)
		for _, d := range noTimes {
			if timer, err := c.In(d); timer != 0 || err != api.ErrTime {
				t.Errorf("In(%d) at %d: %d, %d", d, now, timer, err)
			}
		}
		same(t, c, now)
		arm(t, c, 1, last)
	}
}

// TestArmAndIn: both give numbers of one row, and timers of one order (5.1).
func TestArmAndIn(t *testing.T) {
	c := clockAt(t, 3)
	for i, armNext := range []func() (int, api.Errno){
		func() (int, api.Errno) { return c.Arm(8) },
		func() (int, api.Errno) { return c.In(5) },
		func() (int, api.Errno) { return c.Arm(3) },
		func() (int, api.Errno) { return c.In(0) },
		func() (int, api.Errno) { return c.Arm(8) },
		func() (int, api.Errno) { return c.In(2) },
	} {
		if timer, err := armNext(); timer != i+1 || err != api.OK {
			t.Errorf("timer %d: %d, %d", i+1, timer, err)
		}
	}
	same(t, c, 3, ring(3, 3), ring(4, 3), ring(6, 5), ring(1, 8), ring(2, 8), ring(5, 8))
}

// TestStop: of the first, one in the midst, the last and the only one; each once (5.1).
func TestStop(t *testing.T) {
	three := []int64{8, 2, 4}
	for _, c := range []struct {
		ticks []int64
		timer int
		want  []api.Ring
	}{
		{three, 2, []api.Ring{ring(3, 4), ring(1, 8)}},
		{three, 3, []api.Ring{ring(2, 2), ring(1, 8)}},
		{three, 1, []api.Ring{ring(2, 2), ring(3, 4)}},
		{[]int64{0}, 1, nil},
		{[]int64{last}, 1, nil},
		{[]int64{5, 5, 5}, 2, []api.Ring{ring(1, 5), ring(3, 5)}},
	} {
		k := armed(t, c.ticks...)
		if !k.Stop(c.timer) {
			t.Errorf("Stop(%d) of %d: false", c.timer, c.ticks)
		}
		same(t, k, 0, c.want...)
		notArmed(t, k, c.timer)
		same(t, k, 0, c.want...)
		advance(t, k, last, c.want...)
	}
}

// TestStopAbsent: what was never armed, is not armed yet, or has rung (5.1).
func TestStopAbsent(t *testing.T) {
	c := armed(t, 5, 3)
	notArmed(t, c, 3)
	same(t, c, 0, ring(2, 3), ring(1, 5))
	advance(t, c, 3, ring(2, 3))
	notArmed(t, c, 2)
	same(t, c, 3, ring(1, 5))
	arm(t, c, 3, 4)
	if !c.Stop(3) {
		t.Error("Stop of what was armed at last: false")
	}
	same(t, c, 3, ring(1, 5))
}

// TestNumbersGoOn: no number comes again, behind a Stop, a ring, or a call that answered an error (5.1).
func TestNumbersGoOn(t *testing.T) {
	c := armed(t, 4, 6)
	c.Stop(2)
	arm(t, c, 3, 6)
	c.Stop(1)
	c.Stop(3)
	same(t, c, 0)
	arm(t, c, 4, 2)
	advance(t, c, 2, ring(4, 2))
	same(t, c, 2)
	arm(t, c, 5, 2)
	leap(t, c, ring(5, 2))
	c.Arm(-1)
	c.Arm(1)
	c.In(-1)
	arm(t, c, 6, 9)
	same(t, c, 2, ring(6, 9))
	for timer := 1; timer < 6; timer++ {
		notArmed(t, c, timer)
	}
}

// TestLeft: it grows less as the clock goes on, to 0 for one that is armed for now (5.1).
func TestLeft(t *testing.T) {
	c := armed(t, 0, 9, last)
	for _, k := range []struct{ now, nine, end int64 }{{0, 9, last}, {4, 5, last - 4}, {8, 1, last - 8}} {
		c.Advance(k.now - c.Now())
		if left, ok := c.Left(2); left != k.nine || !ok {
			t.Errorf("Left at %d: %d, %t", k.now, left, ok)
		}
		if left, ok := c.Left(3); left != k.end || !ok {
			t.Errorf("Left at %d: %d, %t", k.now, left, ok)
		}
	}
	notArmed(t, c, 1)
	arm(t, c, 4, 8)
	if left, ok := c.Left(4); left != 0 || !ok {
		t.Errorf("Left of one for now: %d, %t", left, ok)
	}
}

// TestMany: MaxTimers timers and one more, and the errors that come ahead of ErrMany (5.1).
func TestMany(t *testing.T) {
	c := clockAt(t, 5)
	var want []api.Ring
	for i := range most {
		at := int64(10 + i/3)
		arm(t, c, i+1, at)
		want = append(want, ring(i+1, at))
	}
	full := func(now int64) {
		t.Helper()
		for _, at := range []int64{now, 100000, last} {
			if timer, err := c.Arm(at); timer != 0 || err != api.ErrMany {
				t.Errorf("Arm(%d): %d, %d", at, timer, err)
			}
		}
		for _, d := range []int64{0, 1, last, longest} {
			if timer, err := c.In(d); timer != 0 || err != api.ErrMany {
				t.Errorf("In(%d): %d, %d", d, timer, err)
			}
		}
	}
	full(5)
	for _, at := range noTicks {
		if timer, err := c.Arm(at); timer != 0 || err != api.ErrTick {
			t.Errorf("Arm(%d): %d, %d", at, timer, err)
		}
	}
	for _, at := range []int64{0, 4} {
		if timer, err := c.Arm(at); timer != 0 || err != api.ErrPast {
			t.Errorf("Arm(%d): %d, %d", at, timer, err)
		}
	}
	for _, d := range noTimes {
		if timer, err := c.In(d); timer != 0 || err != api.ErrTime {
			t.Errorf("In(%d): %d, %d", d, timer, err)
		}
	}
	same(t, c, 5, want...)

	if !c.Stop(8) {
		t.Error("Stop(8): false")
	}
	arm(t, c, most+1, last)
	full(5)
	leap(t, c, want[:3]...)
	arm(t, c, most+2, last, last, last)
	full(10)
	want = slices.Concat(want[3:7], want[8:], []api.Ring{ring(most+1, last), ring(most+2, last), ring(most+3, last), ring(most+4, last)})
	same(t, c, 10, want...)
	advance(t, c, last-10, want...)
	same(t, c, last)
	arm(t, c, most+5, last)
}

// TestCloneOfMany: a full clock's clone is full, too, and rings the same (5.3).
func TestCloneOfMany(t *testing.T) {
	c := clock.New()
	for i := range most {
		c.Arm(int64((i * 7919) % 1000))
	}
	twin := c.Clone()
	if timer, err := twin.Arm(5); timer != 0 || err != api.ErrMany {
		t.Errorf("Arm: %d, %d", timer, err)
	}
	want := c.Armed()
	same(t, twin, 0, want...)
	advance(t, twin, 1000, want...)
	advance(t, c, 1000, want...)
	arm(t, twin, most+1, last)
}
