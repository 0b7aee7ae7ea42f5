package clock_test

import (
	"math"
	"testing"

	"convoy/api"
	"convoy/clock"
)

// TestClone: it stands where its clock stands, with the same armed, and numbers go on as there (5.3).
func TestClone(t *testing.T) {
	c := armed(t, 9, 4, 2, 9, 6, 9)
	advance(t, c, 2, ring(3, 2))
	c.Stop(5)
	want := []api.Ring{ring(2, 4), ring(1, 9), ring(4, 9), ring(6, 9)}
	twin := c.Clone()
	if twin == nil || twin == c {
		t.Fatal("Clone: nil, or the clock itself")
	}
	same(t, twin, 2, want...)
	notArmed(t, twin, 3)
	notArmed(t, twin, 5)
	if timer, err := twin.Arm(1); timer != 0 || err != api.ErrPast {
		t.Errorf("Arm(1): %d, %d", timer, err)
	}
	arm(t, twin, 7, 9, 3)
	arm(t, c, 7, 9, 3)
	for _, k := range []*clock.Clock{c, twin} {
		advance(t, k, 20, ring(8, 3), ring(2, 4), ring(1, 9), ring(4, 9), ring(6, 9), ring(7, 9))
		same(t, k, 22)
	}
}

// TestCloneGoesItsWay: what is done to the one is not done to the other (5.3).
func TestCloneGoesItsWay(t *testing.T) {
	c := armed(t, 3, 5, 5, 8)
	twin := c.Clone()
	c.Stop(2)
	same(t, twin, 0, ring(1, 3), ring(2, 5), ring(3, 5), ring(4, 8))
	leap(t, twin, ring(1, 3))
	same(t, c, 0, ring(1, 3), ring(3, 5), ring(4, 8))
	arm(t, c, 5, 0)
	arm(t, twin, 5, 7, 8)
	advance(t, c, 6, ring(5, 0), ring(1, 3), ring(3, 5))
	same(t, c, 6, ring(4, 8))
	same(t, twin, 3, ring(2, 5), ring(3, 5), ring(5, 7), ring(4, 8), ring(6, 8))
	third := twin.Clone()
	advance(t, twin, last-3, ring(2, 5), ring(3, 5), ring(5, 7), ring(4, 8), ring(6, 8))
	same(t, c, 6, ring(4, 8))
	same(t, third, 3, ring(2, 5), ring(3, 5), ring(5, 7), ring(4, 8), ring(6, 8))
}

// TestCloneOfEmpty: of a new clock, and of one whose timers are all gone (5.3).
func TestCloneOfEmpty(t *testing.T) {
	twin := clock.New().Clone()
	same(t, twin, 0)
	arm(t, twin, 1, 0)
	c := armed(t, 5, 6)
	leap(t, c, ring(1, 5))
	c.Stop(2)
	twin = c.Clone()
	same(t, twin, 5)
	if rings, ok := twin.Leap(); len(rings) != 0 || ok {
		t.Errorf("Leap: %v, %t", rings, ok)
	}
	arm(t, twin, 3, last)
	same(t, c, 5)
	end := clockAt(t, last).Clone()
	same(t, end, last)
	if rings, err := end.Advance(1); len(rings) != 0 || err != api.ErrTick {
		t.Errorf("Advance(1) at the end: %v, %d", rings, err)
	}
}

// TestNil: 5.3, whatever the arguments.
func TestNil(t *testing.T) {
	var c *clock.Clock
	numbers := append([]int64{0, 1, 7, last - 1, last, math.MaxInt64 - 1}, noTicks...)
	for range 2 {
		for _, n := range numbers {
			if timer, err := c.Arm(n); timer != 0 || err != api.ErrArg {
				t.Errorf("Arm(%d): %d, %d", n, timer, err)
			}
			if timer, err := c.In(n); timer != 0 || err != api.ErrArg {
				t.Errorf("In(%d): %d, %d", n, timer, err)
			}
			if rings, err := c.Advance(n); len(rings) != 0 || err != api.ErrArg {
				t.Errorf("Advance(%d): %v, %d", n, rings, err)
			}
		}
		if rings, ok := c.Leap(); len(rings) != 0 || ok {
			t.Errorf("Leap: %v, %t", rings, ok)
		}
		same(t, c, 0)
		notArmed(t, c, 1)
		if twin := c.Clone(); twin != nil {
			t.Errorf("Clone: %v", twin)
		}
	}
}
