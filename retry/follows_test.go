package retry_test

import (
	"math/rand"
	"testing"

	"convoy/api"
	"convoy/retry"
)

// act is what was told to a breaker with OK.
type act struct {
	now         int64
	asked, fine bool
}

// plain is a breaker as the chapter tells it, by a list of all that was told.
type plain struct {
	fails int
	cool  int64
	acts  []act
}

// stand goes over the list: which state it is in, and until when it is open.
func (p *plain) stand() (int, int64) {
	state, until := api.BreakShut, int64(0)
	var row []bool // the tries since it was shut last
	for _, a := range p.acts {
		opens := false
		switch {
		case a.asked:
			if state == api.BreakOpen && a.now >= until {
				state = api.BreakHalf
			}
		case state == api.BreakShut:
			row = append(row, a.fine)
			opens = p.allFailed(row)
		case state == api.BreakHalf && a.fine:
			state, row = api.BreakShut, nil
		case state == api.BreakHalf:
			opens = true
		}
		if opens {
			state, until = api.BreakOpen, int64(min(uint64(a.now)+uint64(p.cool), last))
		}
	}
	if state != api.BreakOpen {
		until = 0
	}
	return state, until
}

// allFailed tells whether the last ones of a row, as many as open a breaker, failed.
func (p *plain) allFailed(row []bool) bool {
	if len(row) < p.fails {
		return false
	}
	for _, fine := range row[len(row)-p.fails:] {
		if fine {
			return false
		}
	}
	return true
}

// tell lists what is told, if that may be.
func (p *plain) tell(a act) api.Errno {
	if a.now < 0 || a.now > last {
		return api.ErrTick
	}
	for _, other := range p.acts {
		if a.now < other.now {
			return api.ErrBack
		}
	}
	p.acts = append(p.acts, a)
	return api.OK
}

// ask answers whether one may try.
func (p *plain) ask(now int64) (bool, api.Errno) {
	was, _ := p.stand()
	if err := p.tell(act{now: now, asked: true}); err != api.OK {
		return false, err
	}
	is, _ := p.stand()
	return is == api.BreakShut || is != was, api.OK
}

// aTick answers a tick near another one by lot: most of them above it, some below it, and some that are none.
func aTick(lot *rand.Rand, near int64) int64 {
	switch lot.Intn(40) {
	case 0:
		return noTicks[lot.Intn(len(noTicks))]
	case 1:
		return lot.Int63()
	case 2, 3:
		return near - 1 - lot.Int63n(3)
	}
	return near + lot.Int63n(4)
}

// TestLikePlain holds a breaker against a plain one, by lot, with clones (17.2, 17.3).
func TestLikePlain(t *testing.T) {
	for seed := range int64(3000) {
		lot := rand.New(rand.NewSource(seed))
		cools := []int64{0, 1, 2, 3, 8, last - 5, last, longest}
		p := &plain{fails: 1 + lot.Intn(4), cool: cools[lot.Intn(len(cools))]}
		b := of(t, p.fails, p.cool)
		near := []int64{0, 0, last - 30}[lot.Intn(3)]
		for range 60 {
			now := aTick(lot, near)
			if lot.Intn(2) == 0 {
				want, wrong := p.ask(now)
				if got, err := b.Ask(now); got != want || err != wrong {
					t.Fatalf("%d: Ask(%d): %t, %d, not %t, %d, behind %v", seed, now, got, err, want, wrong, p)
				}
			} else {
				fine := lot.Intn(4) == 0
				wrong := p.tell(act{now: now, fine: fine})
				if err := b.Done(now, fine); err != wrong {
					t.Fatalf("%d: Done(%d, %t): %d, not %d, behind %v", seed, now, fine, err, wrong, p)
				}
			}
			is, until := p.stand()
			state(t, b, is, until)
			if len(p.acts) > 0 {
				near = min(p.acts[len(p.acts)-1].now, last)
			}
			if lot.Intn(10) == 0 {
				b = b.Clone()
			}
		}
	}
}

// TestBetweenOpenings: Cool ticks pass between two of them, unless they reach the last tick, and a try was let through (17.4).
func TestBetweenOpenings(t *testing.T) {
	openings := 0
	for seed := range int64(3000) {
		lot := rand.New(rand.NewSource(seed))
		cool := []int64{0, 1, 2, 5, 9, last}[lot.Intn(6)]
		b := of(t, 1+lot.Intn(3), cool)
		now := []int64{0, 0, last - 40}[lot.Intn(3)]
		opened, through := int64(-1), false
		for range 200 {
			now = min(now+lot.Int63n(3), last)
			was := b.State(now)
			if may, err := b.Ask(now); err != api.OK {
				t.Fatal(now, err)
			} else if may {
				through = true
			}
			if was == api.BreakOpen && b.State(now) == api.BreakShut {
				t.Fatalf("%d: shut without a try at %d", seed, now)
			}
			was = b.State(now)
			done(t, b, now, lot.Intn(5) == 0)
			if was == api.BreakOpen || b.State(now) != api.BreakOpen {
				continue
			}
			if opened >= 0 && (!through || now-opened < cool && now < last) {
				t.Fatalf("%d: opened at %d and at %d, cool %d, let through %t", seed, opened, now, cool, through)
			}
			opened, through = now, false
			openings++
		}
	}
	if openings < 10000 {
		t.Fatalf("%d openings", openings)
	}
}

// TestWaitsWithin: never above Most, never below 0, and without Spread they never fall (17.4).
func TestWaitsWithin(t *testing.T) {
	lot := rand.New(rand.NewSource(17))
	all := plans()
	for range 20000 {
		all = append(all, plan(lot.Int63()>>lot.Intn(63), lot.Int63()>>lot.Intn(63), 1+lot.Intn(most), lot.Intn(257)))
	}
	for _, r := range all {
		seed := lot.Uint64()
		got, err := retry.Waits(r, seed)
		if len(got) != r.Tries-1 || err != api.OK {
			t.Fatalf("Waits(%v, %d): %v, %d", r, seed, got, err)
		}
		before := int64(0)
		for i, w := range got {
			if w < 0 || w > r.Most || w != byHand(r, i+1, seed) {
				t.Fatalf("Waits(%v, %d): %v", r, seed, got)
			}
			if r.Spread == 0 && w < before {
				t.Fatalf("Waits(%v, %d) fall: %v", r, seed, got)
			}
			before = w
		}
	}
}
