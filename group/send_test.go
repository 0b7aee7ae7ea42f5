package group_test

import (
	"slices"
	"testing"

	"convoy/api"
	"convoy/group"
)

// send asks for what is due, and holds it against what should be.
func send(t *testing.T, g *group.Group, now int64, want ...int) {
	t.Helper()
	if got, err := g.Send(now); !slices.Equal(got, want) || err != api.OK {
		t.Fatalf("Send(%d): %v, %d, not %v", now, got, err, want)
	}
}

// gathering is a configuration by which runs gather.
func gathering(batch int, window int64) api.Config {
	return with(func(c *api.Config) { c.Flight, c.Batch, c.Window = 10, batch, window })
}

// nth is a key that no other number has.
func nth(n int) api.Key { return api.Key{Space: 9, Name: string(rune('a' + n))} }

// TestSentAtOnce: with Batch 1, or Window 0, each run is a load of its own, and nothing gathers (16.2, 16.6).
func TestSentAtOnce(t *testing.T) {
	for _, c := range []api.Config{gathering(1, 0), gathering(1, 5), gathering(1, most), gathering(2, 0), gathering(1024, 0)} {
		g := holding(t, c, 5, kept(a, value(7), 0))
		join(t, g, 5, b, 1, 0, led(1, 1))
		join(t, g, 5, a, 2, 0, staleLed(2, value(7), 2))
		join(t, g, 5, b, 3, 0, joined(1))
		same(t, g, on(5, asked(1, b, 0, 1, 3), renewed(2, a, 0)).of(c).keeps(kept(a, value(7), 0)))
		send(t, g, last)
	}
}

// TestSentWhenFull: the last run of a load sends it, and none ahead of that; who joins one that is there, has a hit or is busy sends nothing (16.2, 16.6).
func TestSentWhenFull(t *testing.T) {
	for _, batch := range []int{2, 3, 5} {
		c := gathering(batch, 100)
		c.Flight, c.TTL = 2*batch, 50
		g := holding(t, c, 0, kept(b, value(8), 0))
		then := on(0).of(c).keeps(kept(b, value(8), 0))
		for run := 1; run <= 2*batch; run++ {
			now, gathered := int64(run), slices.Clone(then.gathers)
			if len(gathered) == 0 {
				then.due = now + 100
			}
			gathered = append(gathered, run)
			then.now, then.runs = now, append(then.runs, asked(run, nth(run), 0, run))
			if len(gathered) < batch {
				join(t, g, now, nth(run), run, 0, led(run))
				then = then.gather(then.due, gathered...)
			} else {
				join(t, g, now, nth(run), run, 0, led(run, gathered...))
				then = then.gather(0)
			}
			same(t, g, then)
			meets(t, g, now, nth(run), joined(run))
		}
		meets(t, g, then.now, b, hit(value(8)))
		meets(t, g, then.now, a, busy())
	}
}

// TestSentByARefresh: a refresh gathers with the others, and may be the last one of a load (16.2).
func TestSentByARefresh(t *testing.T) {
	g := holding(t, gathering(3, 10), 0, kept(a, value(7), 0), kept(b, value(8), 0))
	then := on(5).of(g.Config()).keeps(kept(a, value(7), 0), kept(b, value(8), 0))
	join(t, g, 5, a, 1, 0, staleLed(1, value(7)))
	join(t, g, 5, c, 1, 0, led(2))
	join(t, g, 5, a, 2, 0, stale(1, value(7)))
	same(t, g, on(5, renewed(1, a, 0), asked(2, c, 0, 1)).of(g.Config()).gather(15, 1, 2).keeps(kept(b, value(8), 0), kept(a, value(7), 0)))
	join(t, g, 5, b, 2, 0, staleLed(3, value(8), 1, 2, 3))
	then.runs = []one{renewed(1, a, 0), asked(2, c, 0, 1), renewed(3, b, 0)}
	same(t, g, then)
}

// TestSend: what gathers is sent at the tick at which it is due, and behind it, and not ahead of it (16.6).
func TestSend(t *testing.T) {
	for _, late := range []int64{0, 1, 100, last - 16} {
		g := fresh(t, gathering(3, 10))
		send(t, g, 4)
		join(t, g, 6, b, 1, 0, led(1))
		then := on(6, asked(1, b, 0, 1)).of(g.Config()).gather(16, 1)
		same(t, g, then)
		send(t, g, 6)
		join(t, g, 9, a, 2, 0, led(2))
		then.runs = append(then.runs, asked(2, a, 0, 2))
		for _, now := range []int64{9, 10, 15} {
			send(t, g, now)
			then.now = now
			same(t, g, then.gather(16, 1, 2))
		}
		send(t, g, 16+late, 1, 2)
		then.now = 16 + late
		same(t, g, then.gather(0))
		send(t, g, 16+late)
		if late > 100 {
			continue
		}
		// What gathers next is due by its own first run.
		join(t, g, 200, c, 3, 0, led(3))
		then.now, then.runs = 200, append(then.runs, asked(3, c, 0, 3))
		same(t, g, then.gather(210, 3))
		send(t, g, 209)
		send(t, g, 210, 3)
	}
}

// TestSendLate: who asks behind the tick at which a load is due, when nobody has sent it yet, gathers with it (16.6).
func TestSendLate(t *testing.T) {
	g := fresh(t, gathering(3, 10))
	join(t, g, 0, a, 1, 0, led(1))
	join(t, g, 20, b, 2, 0, led(2))
	same(t, g, on(20, asked(1, a, 0, 1), asked(2, b, 0, 2)).of(g.Config()).gather(10, 1, 2))
	send(t, g, 20, 1, 2)
}

// TestSendAtTheLastTick: a window that goes beyond it is due there (16.6).
func TestSendAtTheLastTick(t *testing.T) {
	for _, window := range []int64{last, last - 3, most} {
		g := fresh(t, gathering(3, window))
		join(t, g, 5, a, 1, 0, led(1))
		same(t, g, on(5, asked(1, a, 0, 1)).of(g.Config()).gather(last, 1))
		send(t, g, last-1)
		send(t, g, last, 1)
	}
}

// TestSendWhatIsLeft: a run that is left, forgotten or ended while it gathers is sent with its load (16.6).
func TestSendWhatIsLeft(t *testing.T) {
	g := fresh(t, gathering(5, 10))
	for i, k := range []api.Key{a, b, c, long} {
		join(t, g, 0, k, i+1, 0, led(i+1))
	}
	leave(t, g, 1, 1, leftBoth(1, 1))
	forget(t, g, 1, b, api.Forgot{Generation: 1, Run: 2})
	end(t, g, 1, 3, load(3), api.Done{Run: api.Run{Run: 3, Key: c}, Told: told(load(3), 3), Current: true, Kept: true})
	then := on(1, asked(1, a, 0).left(), asked(2, b, 0, 2).past(), asked(4, long, 0, 4)).of(g.Config()).gen(a, 1).gen(b, 1).keeps(kept(c, load(3), 1))
	same(t, g, then.gather(10, 1, 2, 3, 4))
	full := g.Clone()
	send(t, g, 10, 1, 2, 3, 4)
	then.now = 10
	same(t, g, then)
	join(t, full, 1, a, 1, 0, led(5, 1, 2, 3, 4, 5))
}

// TestGatheringIsInProgress: a run that gathers counts for Flight, and is joined like any other (16.2).
func TestGatheringIsInProgress(t *testing.T) {
	c := gathering(5, 10)
	c.Flight = 2
	g := fresh(t, c)
	join(t, g, 0, a, 1, 0, led(1))
	join(t, g, 0, b, 2, 0, led(2))
	join(t, g, 0, api.Key{Space: 1}, 3, 0, busy())
	join(t, g, 0, a, 3, 0, joined(1))
	same(t, g, on(0, asked(1, a, 0, 1, 3), asked(2, b, 0, 2)).of(c).gather(10, 1, 2))
}

// TestSendWrong: ticks that may not be (16.6).
func TestSendWrong(t *testing.T) {
	g := fresh(t, gathering(3, 10))
	join(t, g, 5, a, 1, 0, led(1))
	noSend(t, g, api.ErrTick, noTicks...)
	noSend(t, g, api.ErrBack, 0, 4)
	same(t, g, on(5, asked(1, a, 0, 1)).of(g.Config()).gather(15, 1))
}

// noSend looks that nothing is sent at some ticks, with an error.
func noSend(t *testing.T, g *group.Group, want api.Errno, ticks ...int64) {
	t.Helper()
	for _, now := range ticks {
		if got, err := g.Send(now); len(got) != 0 || err != want {
			t.Fatalf("Send(%d): %v, %d, not %d", now, got, err, want)
		}
	}
}

// TestInterest: of a run that is led, of a refresh, of one that is released, left, or not in progress (16.6).
func TestInterest(t *testing.T) {
	g := refreshed(t)
	interest := func(run, want int) {
		t.Helper()
		if got := g.Interest(run); got != want {
			t.Fatalf("Interest(%d): %d, not %d", run, got, want)
		}
	}
	interest(1, 1)
	join(t, g, 9, a, 1, 0, joined(1))
	interest(1, 2)
	join(t, g, 9, a, 2, 0, joined(1))
	interest(1, 3)
	join(t, g, 9, long, 3, 0, led(2, 2))
	interest(2, 1)
	join(t, g, 9, long, 4, 0, joined(2))
	interest(2, 2)
	keepOthers(t, g, 9)
	interest(1, 2)
	leave(t, g, 9, 1, leftStill(1, 1))
	interest(1, 1)
	leave(t, g, 9, 2, leftBoth(2, 1))
	interest(1, 0)
	end(t, g, 9, 2, value(5), api.Done{Run: api.Run{Run: 2, Key: long}, Told: told(value(5), 3, 4), Current: true, Kept: true, Gone: []api.Key{b}})
	interest(2, 0)
	// A run that is no refresh has the entry of its key that is there not count.
	g = holding(t, usual, 0, kept(a, value(7), 0), kept(b, value(8), 0))
	join(t, g, 9, a, 1, 0, led(1, 1))
	interest(1, 1)
	// Nor has a refresh that is not current the next entry of its key.
	g = refreshed(t, 1)
	forget(t, g, 9, a, api.Forgot{Kept: true, Generation: 1, Run: 1})
	interest(1, 1)
	join(t, g, 9, a, 2, 0, led(2, 2))
	end(t, g, 9, 2, value(8), api.Done{Run: api.Run{Run: 2, Key: a, Generation: 1}, Told: told(value(8), 2), Current: true, Kept: true})
	interest(1, 1)
	join(t, g, 14, a, 2, 0, staleLed(3, value(8), 3))
	interest(1, 1)
	interest(3, 1)
}
