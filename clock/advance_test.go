package clock_test

import (
	"slices"
	"testing"

	"convoy/api"
	"convoy/clock"
)

// TestExamples: the chapter's own.
func TestExamples(t *testing.T) {
	c := armed(t, 5, 3)
	if timer, err := c.In(5); timer != 3 || err != api.OK {
		t.Errorf("In(5): %d, %d", timer, err)
	}
	advance(t, c, 4, ring(2, 3))
	same(t, c, 4, ring(1, 5), ring(3, 5))
	leap(t, c, ring(1, 5), ring(3, 5))
	same(t, c, 5)
	if timer, err := c.Arm(4); timer != 0 || err != api.ErrPast {
		t.Errorf("Arm(4): %d, %d", timer, err)
	}
	arm(t, c, 4, 6, 5, 5)
	advance(t, c, 0, ring(5, 5), ring(6, 5))
	same(t, c, 5, ring(4, 6))
}

// TestAdvance: to below, at and above ticks for which timers are armed (5.2).
func TestAdvance(t *testing.T) {
	ticks := []int64{7, 3, 7, last, 3, 0}
	inOrder := []api.Ring{ring(6, 0), ring(2, 3), ring(5, 3), ring(1, 7), ring(3, 7), ring(4, last)}
	for _, c := range []struct {
		d    int64
		rang int
	}{
		{0, 1}, {1, 1}, {2, 1}, {3, 3}, {4, 3}, {6, 3}, {7, 5}, {8, 5}, {last - 1, 5}, {last, 6},
	} {
		k := armed(t, ticks...)
		advance(t, k, c.d, inOrder[:c.rang]...)
		same(t, k, c.d, inOrder[c.rang:]...)
		for _, r := range inOrder[:c.rang] {
			notArmed(t, k, r.Timer)
		}
		advance(t, k, 0)
		same(t, k, c.d, inOrder[c.rang:]...)
	}
}

// TestForNow: a timer for now does not ring of itself, but when the clock goes on, by 0 too (5.1, 5.2).
func TestForNow(t *testing.T) {
	for _, now := range []int64{0, 1, 7, last - 1, last} {
		for _, d := range []int64{0, 1, 5} {
			if now+d > last {
				continue
			}
			c := clockAt(t, now)
			arm(t, c, 1, now)
			c.In(0)
			same(t, c, now, ring(1, now), ring(2, now))
			same(t, c, now, ring(1, now), ring(2, now))
			advance(t, c, d, ring(1, now), ring(2, now))
			same(t, c, now+d)
		}
		c := clockAt(t, now)
		arm(t, c, 1, now)
		leap(t, c, ring(1, now))
		same(t, c, now)
	}
}

// TestAdvanceNoTime: ErrTime, and nothing rings, not even what is armed for now (5.2).
func TestAdvanceNoTime(t *testing.T) {
	for _, now := range []int64{0, 7, last} {
		c := clockAt(t, now)
		arm(t, c, 1, now, last)
		for _, d := range noTimes {
			if rings, err := c.Advance(d); len(rings) != 0 || err != api.ErrTime {
				t.Errorf("Advance(%d) at %d: %v, %d", d, now, rings, err)
			}
		}
		same(t, c, now, ring(1, now), ring(2, last))
	}
}

// TestAdvanceTooFar: ErrTick above MaxTime, and nothing rings (5.2).
func TestAdvanceTooFar(t *testing.T) {
	for _, c := range []struct{ now, d int64 }{
		{0, last + 1}, {0, longest}, {1, last}, {1, longest}, {7, last - 6}, {7, longest - 6},
		{last - 1, 2}, {last - 1, longest}, {last, 1}, {last, last}, {last, last + 1}, {last, longest},
	} {
		k := clockAt(t, c.now)
		arm(t, k, 1, c.now, last)
		if rings, err := k.Advance(c.d); len(rings) != 0 || err != api.ErrTick {
			t.Errorf("Advance(%d) at %d: %v, %d", c.d, c.now, rings, err)
		}
		same(t, k, c.now, ring(1, c.now), ring(2, last))
	}
}

// TestAdvanceToTheEnd: MaxTime is where a clock may stand; it goes on by 0 alone there (5.2).
func TestAdvanceToTheEnd(t *testing.T) {
	c := armed(t, last-1, last)
	advance(t, c, last-2)
	advance(t, c, 1, ring(1, last-1))
	advance(t, c, 1, ring(2, last))
	same(t, c, last)
	advance(t, c, 0)
	c.In(longest)
	advance(t, c, 0, ring(3, last))
	same(t, c, last)
}

// TestLeap: with one and with several timers of the first tick, until none is armed (5.2).
func TestLeap(t *testing.T) {
	c := armed(t, 4, 9, 0, 9, last, 9)
	for _, leg := range []struct {
		now  int64
		want []api.Ring
	}{
		{0, []api.Ring{ring(3, 0)}},
		{4, []api.Ring{ring(1, 4)}},
		{9, []api.Ring{ring(2, 9), ring(4, 9), ring(6, 9)}},
		{last, []api.Ring{ring(5, last)}},
	} {
		leap(t, c, leg.want...)
		if c.Now() != leg.now {
			t.Fatalf("Now: %d, not %d", c.Now(), leg.now)
		}
	}
	if rings, ok := c.Leap(); len(rings) != 0 || ok {
		t.Errorf("Leap of none: %v, %t", rings, ok)
	}
	same(t, c, last)
}

// TestLeapFromBetween: a stopped timer is not leapt to, and the clock may stand between ticks that ring (5.2).
func TestLeapFromBetween(t *testing.T) {
	c := armed(t, 3, 8, 5)
	advance(t, c, 4, ring(1, 3))
	c.Stop(3)
	leap(t, c, ring(2, 8))
	same(t, c, 8)
	arm(t, c, 4, 12)
	c.Stop(4)
	if rings, ok := c.Leap(); len(rings) != 0 || ok {
		t.Errorf("Leap where all were stopped: %v, %t", rings, ok)
	}
	same(t, c, 8)
}

// overwrite writes over a list, and over the spare room behind its end.
func overwrite(l []api.Ring) {
	l = l[:cap(l)]
	for i := range l {
		l[i] = ring(1000+i, -5)
	}
}

// TestToldIsNew: what was told stays when the clock goes on, and the clock when what it told is written over (R4).
func TestToldIsNew(t *testing.T) {
	c := armed(t, 7, 3, 7, 1, 9, 3, 9)
	inOrder := []api.Ring{ring(4, 1), ring(2, 3), ring(6, 3), ring(1, 7), ring(3, 7), ring(5, 9), ring(7, 9)}
	told, again := c.Armed(), c.Armed()
	rang, _ := c.Advance(3)
	leapt, _ := c.Leap()
	arm(t, c, 8, 8, 8)
	kept := func() bool {
		return slices.Equal(again, inOrder) && slices.Equal(leapt, inOrder[3:5])
	}
	if !kept() || !slices.Equal(told, inOrder) || !slices.Equal(rang, inOrder[:3]) {
		t.Errorf("what was told, when the clock went on: %v, %v, %v, %v", told, again, rang, leapt)
	}
	overwrite(told)
	overwrite(rang)
	if !kept() {
		t.Errorf("what was told, when another answer was written over: %v, %v", again, leapt)
	}
	overwrite(leapt)
	overwrite(c.Armed())
	same(t, c, 7, ring(8, 8), ring(9, 8), ring(5, 9), ring(7, 9))
	twin := c.Clone()
	overwrite(c.Armed())
	overwrite(twin.Armed())
	same(t, twin, 7, ring(8, 8), ring(9, 8), ring(5, 9), ring(7, 9))
}

// TestApart: two clocks know nothing of one another.
func TestApart(t *testing.T) {
	a, b := armed(t, 4, 6), clock.New()
	same(t, b, 0)
	notArmed(t, b, 1)
	advance(t, a, 5, ring(1, 4))
	arm(t, b, 1, 2, 6, 6)
	same(t, a, 5, ring(2, 6))
	same(t, b, 0, ring(1, 2), ring(2, 6), ring(3, 6))
	if !b.Stop(2) {
		t.Error("Stop(2): false")
	}
	arm(t, a, 3, 9)
	leap(t, b, ring(1, 2))
	same(t, a, 5, ring(2, 6), ring(3, 9))
	same(t, b, 2, ring(3, 6))
}
