package group_test

import (
	"math"
	"slices"
	"testing"

	"convoy/api"
	"convoy/group"
)

// The ways to meet.

func hit(o api.Outcome) api.Joined { return api.Joined{How: api.HowHit, Outcome: o} }

// stale is one that finds a current run.
func stale(run int, o api.Outcome) api.Joined {
	return api.Joined{How: api.HowStale, Run: run, Outcome: o}
}

// staleLed is one by which a refresh is begun.
func staleLed(run int, o api.Outcome, sent ...int) api.Joined {
	return api.Joined{How: api.HowStale, Run: run, Begun: true, Outcome: o, Sent: sent}
}

func joined(run int) api.Joined { return api.Joined{How: api.HowJoined, Run: run} }

func busy() api.Joined {
	return api.Joined{How: api.HowBusy, Outcome: failure(api.FailBusy, 0, 0)}
}

func led(run int, sent ...int) api.Joined {
	return api.Joined{How: api.HowLed, Run: run, Begun: true, Sent: sent}
}

// equal is whether two answers of Join are the same.
func equal(x, y api.Joined) bool {
	return x.How == y.How && x.Run == y.Run && x.Begun == y.Begun && x.Outcome == y.Outcome && slices.Equal(x.Sent, y.Sent)
}

// join lets a caller ask, and holds what it meets against what it should.
func join(t *testing.T, g *group.Group, now int64, k api.Key, caller, token int, want api.Joined) {
	t.Helper()
	if got, err := g.Join(now, k, caller, token); !equal(got, want) || err != api.OK {
		t.Fatalf("Join(%d, %v, %d, %d): %+v, %d, not %+v", now, k, caller, token, got, err, want)
	}
}

// noJoin looks that a caller can not ask, with an error.
func noJoin(t *testing.T, g *group.Group, want api.Errno, now int64, k api.Key, caller, token int) {
	t.Helper()
	if got, err := g.Join(now, k, caller, token); !equal(got, api.Joined{}) || err != want {
		t.Fatalf("Join(%d, %v, %d, %d): %+v, %d, not %d", now, k, caller, token, got, err, want)
	}
}

// meets holds what a caller would meet against what it should, and changes nothing.
func meets(t *testing.T, g *group.Group, now int64, k api.Key, want api.Joined) {
	t.Helper()
	join(t, g.Clone(), now, k, 1000, 0, want)
}

// TestLed: without an entry and a current run a run is begun, and the caller waits for it (16.2).
func TestLed(t *testing.T) {
	g := fresh(t, with(func(c *api.Config) { c.Flight = 5 }))
	then := on(0)
	for i, k := range keys {
		caller := []int{1, 5, math.MaxInt, 2, 3}[i]
		token := []int{0, 1, math.MaxInt, 1, 7}[i]
		join(t, g, int64(i), k, caller, token, led(i+1, i+1))
		then.now, then.runs = int64(i), append(then.runs, asked(i+1, k, 0, caller))
		same(t, g, then.of(g.Config()))
	}
}

// TestJoined: who asks for a key with a current run waits for it, behind the others, whoever leaves (16.2).
func TestJoined(t *testing.T) {
	g := fresh(t, with(func(c *api.Config) { c.Flight = 1 }))
	join(t, g, 0, a, 9, 0, led(1, 1))
	for i, caller := range []int{3, 8, 1, math.MaxInt} {
		join(t, g, int64(i), a, caller, i, joined(1))
	}
	same(t, g, on(3, asked(1, a, 0, 9, 3, 8, 1, math.MaxInt)).of(g.Config()))
	leave(t, g, 4, 8, leftStill(8, 1))
	join(t, g, 4, a, 8, 0, joined(1))
	same(t, g, on(4, asked(1, a, 0, 9, 3, 1, math.MaxInt, 8)).of(g.Config()))
	// The last tick at which it is so is that of its end, ahead of that.
	meets(t, g, last, a, joined(1))
	end(t, g, 5, 1, failure(api.FailAbort, 0, 1), api.Done{Run: api.Run{Run: 1, Key: a}, Told: told(failure(api.FailAbort, 0, 1), 9, 3, 1, math.MaxInt, 8), Current: true})
	meets(t, g, 5, a, led(2, 2))
}

// TestBusy: while Flight runs are in progress who would lead is told so, and waits for nothing (16.2).
func TestBusy(t *testing.T) {
	for _, flight := range []int{1, 2, 4} {
		g := fresh(t, with(func(c *api.Config) { c.Flight = flight }))
		then := on(1).of(g.Config())
		for i := range flight {
			meets(t, g, 1, b, led(i+1, i+1))
			k := api.Key{Space: 7, Name: string(rune('a' + i))}
			join(t, g, 1, k, i+1, 0, led(i+1, i+1))
			then.runs = append(then.runs, asked(i+1, k, 0, i+1))
		}
		for caller := 10; caller < 13; caller++ {
			join(t, g, 1, b, caller, 3, busy())
			same(t, g, then)
		}
		if l, err := g.Leave(1, 10); l != (api.Left{}) || err != api.ErrNone {
			t.Errorf("who was told busy leaves: %+v, %d", l, err)
		}
		meets(t, g, last, b, busy())
		meets(t, g, 1, then.runs[0].run.Key, joined(1))
		// What was left, or forgotten, is in progress still.
		leave(t, g, 1, 1, leftBoth(1, 1))
		join(t, g, 1, then.runs[0].run.Key, 10, 0, busy())
		end(t, g, 2, 1, value(1), api.Done{Run: then.runs[0].run})
		join(t, g, 2, b, 10, 0, led(flight+1, flight+1))
		join(t, g, 2, c, 11, 0, busy())
	}
}

// TestHit: from the tick at which it was kept to the last at which its age is below its time: a value's TTL, a failure's Negative (16.2).
func TestHit(t *testing.T) {
	for _, x := range []struct {
		o        api.Outcome
		ttl, neg int64
		time     int64
	}{
		{value(7), 5, 3, 5}, {value(0), 1, 9, 1}, {value(-1), 100, 0, 100},
		{load(4), 5, 3, 3}, {failure(api.FailPanic, 2, 9), 0, 1, 1}, {load(1), 1, 50, 50},
	} {
		g := holding(t, api.Config{TTL: x.ttl, Negative: x.neg, Entries: 1, Flight: 1, Batch: 1}, 10, kept(a, x.o, 10))
		then := on(10).of(g.Config()).keeps(kept(a, x.o, 10))
		for _, age := range []int64{0, 1, x.time / 2, x.time - 2, x.time - 1} {
			if age < 0 || age >= x.time {
				continue
			}
			meets(t, g, 10+age, a, hit(x.o))
		}
		for _, age := range []int64{x.time, x.time + 1, last - 10} {
			meets(t, g, 10+age, a, led(1, 1))
		}
		for i := range 3 {
			join(t, g, 10+x.time-1, a, i+1, 0, hit(x.o))
		}
		then.now = 10 + x.time - 1
		same(t, g, then)
		if l, err := g.Leave(then.now, 1); l != (api.Left{}) || err != api.ErrNone {
			t.Errorf("who had a hit leaves: %+v, %d", l, err)
		}
		join(t, g, 10+x.time, a, 1, 0, led(1, 1))
		then.now, then.runs = 10+x.time, []one{asked(1, a, 0, 1)}
		same(t, g, then)
	}
}

// TestHitAheadOfAll: a fresh entry is told though a run of its key is there, and though as many are in progress as may be (16.2).
func TestHitAheadOfAll(t *testing.T) {
	g := holding(t, with(func(c *api.Config) { c.Flight = 1 }), 0, kept(a, value(7), 0), kept(b, load(1), 0))
	join(t, g, 2, c, 1, 0, led(1, 1))
	for _, now := range []int64{2, 4} {
		meets(t, g, now, a, hit(value(7)))
	}
	meets(t, g, 2, b, hit(load(1)))
	meets(t, g, 3, b, busy())
	meets(t, g, 5, a, busy())
}

// TestHitAgeless: with the greatest times an entry is fresh at every tick (16.2).
func TestHitAgeless(t *testing.T) {
	g := holding(t, greatest, 0, kept(a, value(7), 0), kept(b, load(1), 0))
	for _, now := range []int64{0, 1, last - 1, last} {
		meets(t, g, now, a, hit(value(7)))
		meets(t, g, now, b, hit(load(1)))
	}
	ageless := with(func(c *api.Config) { c.Stale = most })
	g = holding(t, ageless, 0, kept(a, value(7), 0), kept(b, load(1), 0))
	for _, now := range []int64{5, last - 1, last} {
		meets(t, g, now, a, staleLed(1, value(7), 1))
		meets(t, g, now, b, led(1, 1))
	}
}

// TestStale: from the first tick at which a value is not fresh to the last at which its age is below both times together it is told, and a refresh is begun (16.2).
func TestStale(t *testing.T) {
	for _, x := range []struct{ ttl, stale int64 }{{5, 4}, {1, 1}, {3, 0}, {1, 100}, {7, 1}} {
		g := holding(t, api.Config{TTL: x.ttl, Negative: 2, Stale: x.stale, Entries: 2, Flight: 1, Batch: 1}, 20, kept(a, value(7), 20), kept(b, load(1), 20))
		first, past := 20+x.ttl, 20+x.ttl+x.stale
		meets(t, g, first-1, a, hit(value(7)))
		if x.stale > 0 {
			for _, now := range []int64{first, (first + past) / 2, past - 1} {
				meets(t, g, now, a, staleLed(1, value(7), 1))
			}
		}
		for _, now := range []int64{past, past + 1, last} {
			meets(t, g, now, a, led(1, 1))
		}
		// A failure is never stale.
		for _, now := range []int64{22, 23, first + 2, past + 2} {
			meets(t, g, now, b, led(1, 1))
		}
	}
}

// TestStaleFindsARun: with a current run there none is begun, it stays as it is, and the caller does not wait (16.2).
func TestStaleFindsARun(t *testing.T) {
	g := holding(t, with(func(c *api.Config) { c.Flight = 1 }), 0, kept(a, value(7), 0))
	join(t, g, 5, a, 1, 0, staleLed(1, value(7), 1))
	then := on(5, renewed(1, a, 0)).of(g.Config()).keeps(kept(a, value(7), 0))
	same(t, g, then)
	for now := int64(5); now < 9; now++ {
		join(t, g, now, a, 1, 3, stale(1, value(7)))
		then.now = now
		same(t, g, then)
	}
	// What is neither fresh nor stale is none for joining: the refresh is joined then.
	join(t, g, 9, a, 1, 3, joined(1))
	join(t, g, last, a, 2, 0, joined(1))
	then.now, then.runs = last, []one{renewed(1, a, 0, 1, 2)}
	same(t, g, then)
}

// TestStaleBusy: where as many runs are in progress as may be, and none is the key's, nothing is told, nor is the entry used (16.2).
func TestStaleBusy(t *testing.T) {
	g := holding(t, with(func(c *api.Config) { c.Flight = 2 }), 0, kept(a, value(7), 0), kept(b, value(8), 0))
	join(t, g, 5, long, 1, 0, led(1, 1))
	meets(t, g, 5, a, staleLed(2, value(7), 2))
	join(t, g, 5, c, 2, 0, led(2, 2))
	then := on(6, asked(1, long, 0, 1), asked(2, c, 0, 2)).of(g.Config()).keeps(kept(a, value(7), 0), kept(b, value(8), 0))
	join(t, g, 6, a, 3, 0, busy())
	same(t, g, then)
	forget(t, g, 6, c, api.Forgot{Generation: 1, Run: 2})
	join(t, g, 6, a, 3, 0, busy())
	end(t, g, 6, 2, value(1), api.Done{Run: api.Run{Run: 2, Key: c}, Told: told(value(1), 2)})
	join(t, g, 6, a, 3, 0, staleLed(3, value(7), 3))
	join(t, g, 6, b, 4, 0, busy())
	then.runs[1] = renewed(3, a, 0)
	same(t, g, then.gen(c, 1).keeps(kept(b, value(8), 0), kept(a, value(7), 0)))
	join(t, g, 7, a, 4, 0, stale(3, value(7)))
}

// TestNothingIsKept: with times or room of 0 who asks behind an end leads again (16.2).
func TestNothingIsKept(t *testing.T) {
	for _, x := range []struct {
		name    string
		config  api.Config
		o       api.Outcome
		isKept  bool
		atOnce  api.Joined
		later   api.Joined
		longest int64
	}{
		{"TTL 0", api.Config{Negative: 5, Stale: 5, Entries: 2}, value(7), false, led(2, 2), led(2, 2), 0},
		{"TTL 0, a failure", api.Config{Negative: 5, Stale: 5, Entries: 2}, load(1), true, hit(load(1)), led(2, 2), 5},
		{"Negative 0", api.Config{TTL: 5, Stale: 5, Entries: 2}, load(1), false, led(2, 2), led(2, 2), 0},
		{"Negative 0, a value", api.Config{TTL: 5, Stale: 5, Entries: 2}, value(7), true, hit(value(7)), staleLed(2, value(7), 2), 5},
		{"Stale 0", api.Config{TTL: 5, Negative: 5, Entries: 2}, value(7), true, hit(value(7)), led(2, 2), 5},
		{"Entries 0", api.Config{TTL: 5, Negative: 5, Stale: 5}, value(7), false, led(2, 2), led(2, 2), 0},
		{"Entries 0, a failure", api.Config{TTL: 5, Negative: 5, Stale: 5}, load(1), false, led(2, 2), led(2, 2), 0},
		{"all 0", api.Config{}, value(7), false, led(2, 2), led(2, 2), 0},
		{"no outcome to keep", api.Config{TTL: 5, Negative: 5, Stale: 5, Entries: 2}, failure(api.FailBusy, 0, 0), false, led(2, 2), led(2, 2), 0},
	} {
		x.config.Flight, x.config.Batch = 1, 1
		g := fresh(t, x.config)
		join(t, g, 1, a, 1, 0, led(1, 1))
		end(t, g, 2, 1, x.o, api.Done{Run: api.Run{Run: 1, Key: a}, Told: told(x.o, 1), Current: true, Kept: x.isKept})
		meets(t, g, 2, a, x.atOnce)
		meets(t, g, 2+x.longest, a, x.later)
		if x.longest > 0 {
			meets(t, g, 2+x.longest-1, a, x.atOnce)
		}
	}
}

// TestToldIsUsed: what is told by a hit or a stale is used by that, so that another one goes over the bound; what is asked for otherwise is not (16.2).
func TestToldIsUsed(t *testing.T) {
	g := holding(t, with(func(c *api.Config) { c.Entries, c.Flight = 4, 2 }), 4, kept(a, value(1), 0), kept(b, load(2), 3), kept(c, value(3), 3), kept(long, load(4), 1))
	order := func(want ...api.Key) {
		t.Helper()
		var got []api.Key
		for _, e := range g.Entries() {
			got = append(got, e.Key)
		}
		if !slices.Equal(got, want) {
			t.Fatalf("the order: %v, not %v", got, want)
		}
	}
	join(t, g, 5, a, 1, 0, staleLed(1, value(1), 1))
	order(b, c, long, a)
	join(t, g, 5, b, 1, 0, hit(load(2)))
	order(c, long, a, b)
	join(t, g, 5, c, 1, 0, hit(value(3)))
	order(long, a, b, c)
	join(t, g, 5, long, 1, 0, led(2, 2))
	order(long, a, b, c)
	join(t, g, 6, long, 2, 0, joined(2))
	join(t, g, 6, empty, 3, 0, busy())
	order(long, a, b, c)
	join(t, g, 6, a, 3, 0, stale(1, value(1)))
	order(long, b, c, a)
	join(t, g, 9, a, 3, 0, joined(1))
	order(long, b, c, a)
	g.Entry(long)
	g.Memo().Tell(9, long)
	g.Clone().Join(9, c, 7, 0)
	order(long, b, c, a)
}

// fault is a thing that is wrong with what is handed to Join.
type fault struct {
	want api.Errno
	lay  func(x *asks)
}

// asks is what is handed to Join.
type asks struct {
	now           int64
	k             api.Key
	caller, token int
}

// TestJoinErrorsInOrder: each error alone and all of them together: the first that the chapter names is told, and nothing is changed (16.1, 16.2).
func TestJoinErrorsInOrder(t *testing.T) {
	// In the order of the errors; those that are laid later leave what was laid where both can't be.
	faults := []fault{
		{api.ErrTick, func(x *asks) { x.now = -1 }},
		{api.ErrBack, func(x *asks) { x.now = 4 }},
		{api.ErrKey, func(x *asks) { x.k = noKeys[0] }},
		{api.ErrArg, func(x *asks) { x.caller = 0 }},
		{api.ErrArg, func(x *asks) { x.token = -1 }},
		{api.ErrGone, func(x *asks) { x.token = 9 }},
		{api.ErrWaits, func(x *asks) { x.caller = 1 }},
	}
	g := holding(t, with(func(c *api.Config) { c.Flight = 2 }), 4, kept(b, value(7), 4), kept(c, value(8), 0))
	join(t, g, 5, a, 1, 9, led(1, 1))
	cancel(t, g, 5, 9, leftBoth(1, 1))
	join(t, g, 5, a, 1, 0, led(2, 2))
	then := on(5, asked(1, a, 0).left(), asked(2, a, 1, 1)).of(g.Config()).gen(a, 1).keeps(g.Entries()...)
	// A key that is led, joined, busy, a hit, and one that would be stale: errors are told ahead of all these.
	for _, k := range []api.Key{a, b, c, long} {
		for set := 1; set < 1<<len(faults); set++ {
			x, want := asks{now: 6, k: k, caller: 2, token: 1}, api.OK
			for i := len(faults) - 1; i >= 0; i-- {
				if set>>i&1 == 1 {
					faults[i].lay(&x)
					want = faults[i].want
				}
			}
			noJoin(t, g, want, x.now, x.k, x.caller, x.token)
		}
		same(t, g, then)
	}
	for _, k := range noKeys {
		noJoin(t, g, api.ErrKey, 5, k, 2, 0)
	}
	for _, caller := range noCallers {
		noJoin(t, g, api.ErrArg, 5, b, caller, 0)
	}
	for _, token := range noTokens {
		noJoin(t, g, api.ErrArg, 5, b, 2, token)
	}
	same(t, g, then)
	join(t, g, 5, b, 2, 0, hit(value(7)))
}

// TestWaits: who waits can ask for nothing else, until it leaves, or is told, or its token is cancelled (16.2).
func TestWaits(t *testing.T) {
	g := holding(t, usual, 0, kept(b, value(7), 0))
	join(t, g, 0, a, 1, 3, led(1, 1))
	join(t, g, 0, a, 2, 4, joined(1))
	join(t, g, 0, a, 3, 0, joined(1))
	for caller := 1; caller <= 3; caller++ {
		for _, k := range []api.Key{a, b, c} {
			for _, token := range []int{0, 3, 5} {
				noJoin(t, g, api.ErrWaits, 0, k, caller, token)
			}
		}
	}
	same(t, g, on(0, asked(1, a, 0, 1, 2, 3)).keeps(kept(b, value(7), 0)))
	leave(t, g, 1, 1, leftStill(1, 1))
	join(t, g, 1, b, 1, 3, hit(value(7)))
	cancel(t, g, 1, 4, leftStill(2, 1))
	join(t, g, 1, b, 2, 0, hit(value(7)))
	end(t, g, 1, 1, load(1), api.Done{Run: api.Run{Run: 1, Key: a}, Told: told(load(1), 3), Current: true, Kept: true})
	join(t, g, 1, c, 3, 0, led(2, 2))
}

// TestGone: a token that was cancelled is none for joining, whether or not somebody waited by it, and others are (16.2).
func TestGone(t *testing.T) {
	g := holding(t, usual, 0, kept(b, value(7), 0))
	for _, token := range []int{1, 2, 77, math.MaxInt} {
		join(t, g, 0, a, token, token, []api.Joined{led(1, 1), joined(1)}[min(token-1, 1)])
	}
	cancel(t, g, 1, 2, leftStill(2, 1))
	cancel(t, g, 1, 3)
	cancel(t, g, 1, math.MaxInt, leftStill(math.MaxInt, 1))
	for _, token := range []int{2, 3, math.MaxInt} {
		for _, k := range []api.Key{a, b, c} {
			noJoin(t, g, api.ErrGone, 1, k, 5, token)
		}
	}
	join(t, g, 1, b, 5, 4, hit(value(7)))
	join(t, g, 1, a, 5, 1, joined(1))
	join(t, g, 1, a, 6, 0, joined(1))
	join(t, g, 1, a, 7, math.MaxInt-1, joined(1))
	same(t, g, on(1, asked(1, a, 0, 1, 77, 5, 6, 7)).keeps(kept(b, value(7), 0)))
}

// TestGenerations: a run that is begun is of its key's present generation, and its token is live (16.2).
func TestGenerations(t *testing.T) {
	g := fresh(t, with(func(c *api.Config) { c.Flight = 9 }))
	join(t, g, 0, a, 1, 0, led(1, 1))
	forget(t, g, 0, a, api.Forgot{Generation: 1, Run: 1})
	join(t, g, 0, a, 2, 0, led(2, 2))
	leave(t, g, 0, 2, leftBoth(2, 2))
	join(t, g, 0, a, 2, 0, led(3, 3))
	join(t, g, 0, c, 3, 0, led(4, 4))
	same(t, g, on(0, asked(1, a, 0, 1).past(), asked(2, a, 1).left(), asked(3, a, 2, 2), asked(4, c, 0, 3)).of(g.Config()).gen(a, 2))
}
