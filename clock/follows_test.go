package clock_test

import (
	"cmp"
	"math/rand"
	"slices"
	"testing"

	"convoy/api"
	"convoy/clock"
)

// plain is a clock as the chapter tells it, by searching a list.
type plain struct {
	now    int64
	number int
	timers []api.Ring
}

// arm arms a timer, in order behind those of its tick.
func (p *plain) arm(at int64) int {
	p.number++
	p.timers = append(p.timers, ring(p.number, at))
	slices.SortStableFunc(p.timers, func(a, b api.Ring) int { return cmp.Compare(a.At, b.At) })
	return p.number
}

func (p *plain) stop(timer int) bool {
	count := len(p.timers)
	p.timers = slices.DeleteFunc(p.timers, func(r api.Ring) bool { return r.Timer == timer })
	return len(p.timers) < count
}

func (p *plain) advance(to int64) []api.Ring {
	p.now = to
	var rings []api.Ring
	for len(p.timers) > 0 && p.timers[0].At <= to {
		rings, p.timers = append(rings, p.timers[0]), p.timers[1:]
	}
	return rings
}

// clone is a plain clock of its own that is the same.
func (p *plain) clone() *plain {
	return &plain{p.now, p.number, slices.Clone(p.timers)}
}

// step plays one step by lot on a clock and on a plain one.
func step(t *testing.T, lot *rand.Rand, c *clock.Clock, p *plain) {
	t.Helper()
	at := lot.Int63n(p.now + 12)
	d := lot.Int63n(6)
	switch lot.Intn(10) {
	case 0, 1, 2:
		timer, err := c.Arm(at)
		if at < p.now && (timer != 0 || err != api.ErrPast) || at >= p.now && (timer != p.arm(at) || err != api.OK) {
			t.Fatalf("Arm(%d) at %d: %d, %d", at, p.now, timer, err)
		}
	case 3, 4, 5:
		if timer, err := c.In(d); timer != p.arm(p.now+d) || err != api.OK {
			t.Fatalf("In(%d) at %d: %d, %d", d, p.now, timer, err)
		}
	case 6, 7:
		timer := lot.Intn(p.number + 2)
		if was := c.Stop(timer); was != p.stop(timer) {
			t.Fatalf("Stop(%d): %t", timer, was)
		}
	case 8:
		advance(t, c, d, p.advance(p.now+d)...)
	case 9:
		if len(p.timers) > 0 {
			leap(t, c, p.advance(p.timers[0].At)...)
		} else if rings, ok := c.Leap(); len(rings) != 0 || ok {
			t.Fatalf("Leap of none: %v, %t", rings, ok)
		}
	}
	same(t, c, p.now, p.timers...)
}

// TestLikePlain plays steps by lot on clocks, their clones and plain ones (5.1 to 5.3).
func TestLikePlain(t *testing.T) {
	lot := rand.New(rand.NewSource(5))
	for range 100 {
		clocks, plains := []*clock.Clock{clock.New()}, []*plain{{}}
		for range 300 {
			i := lot.Intn(len(clocks))
			step(t, lot, clocks[i], plains[i])
			if len(clocks) < 4 && lot.Intn(60) == 0 {
				clocks, plains = append(clocks, clocks[i].Clone()), append(plains, plains[i].clone())
			}
		}
		for i, c := range clocks {
			same(t, c, plains[i].now, plains[i].timers...)
		}
	}
}

// TestRingsOnce: what rings was armed and not stopped, rings once, and behind an Advance all that is armed is ahead (5.4).
func TestRingsOnce(t *testing.T) {
	lot := rand.New(rand.NewSource(54))
	for range 50 {
		c := clock.New()
		open := map[int]int64{} // what was armed, and has not rung and was not stopped
		for range 200 {
			at := c.Now() + lot.Int63n(8)
			if timer, err := c.Arm(at); err == api.OK {
				open[timer] = at
			}
			if timer := lot.Intn(len(open)*4 + 1); c.Stop(timer) {
				delete(open, timer)
			}
			rings, _ := c.Advance(lot.Int63n(3))
			for _, r := range rings {
				if at, ok := open[r.Timer]; !ok || at != r.At || at > c.Now() {
					t.Fatalf("%v rang at %d; armed were %v", r, c.Now(), open)
				}
				delete(open, r.Timer)
			}
			for timer, at := range open {
				if at <= c.Now() {
					t.Fatalf("timer %d of %d did not ring at %d", timer, at, c.Now())
				}
			}
			if left := c.Armed(); len(left) != len(open) {
				t.Fatalf("Armed: %v of %v", left, open)
			}
		}
	}
}

// TestAdvanceByParts: advances by parts ring what one of their sum rings, in the same order (5.4).
func TestAdvanceByParts(t *testing.T) {
	lot := rand.New(rand.NewSource(45))
	for range 200 {
		whole := clock.New()
		for range lot.Intn(40) {
			whole.Arm(lot.Int63n(30))
		}
		parts := whole.Clone()
		var rang []api.Ring
		var sum int64
		for range 1 + lot.Intn(6) {
			d := lot.Int63n(8)
			rings, err := parts.Advance(d)
			if err != api.OK {
				t.Fatalf("Advance(%d): %d", d, err)
			}
			rang, sum = append(rang, rings...), sum+d
		}
		advance(t, whole, sum, rang...)
		same(t, whole, sum, parts.Armed()...)
		same(t, parts, sum, whole.Armed()...)
	}
}
