package world_test

import (
	"fmt"
	"testing"

	"convoy/api"
)

// gathering is a configuration of loads of so many runs, within so many ticks.
func gathering(count int, window int64) api.Config {
	return api.Config{Flight: 16, Batch: count, Window: window}
}

// TestRecipes: a run of a key goes by the recipe of its place among this key's, and behind the last by that one; without any it has no steps (23.2).
func TestRecipes(t *testing.T) {
	cooks := "0:a add 1; 0:b add 2 add 3; 9:a add 4; 0:a add 5; 0:a add 6"
	w := play(t, plainly, cooks, "call 0:a; call 0:b; call 9:a; call 0:a; call 0:c; call 0:b; call 0:a; call 9:a; call 0:a; call 0:a; call 0:c")
	w.Go(1000)
	for i, want := range []int64{1, 5, 4, 5, 0, 5, 6, 4, 6, 6, 0} {
		if o := w.Log(0)[i].Outcome; o != (api.Outcome{Value: want}) {
			t.Fatalf("at %d: %v, not %d", i, o, want)
		}
	}
	w = play(t, plainly, "", "call 0:a; call 0:a")
	finish(t, w, 4)
	log(t, w, 0, "0 led v0 @0", "1 led v0 @0")
}

// TestRecipesGathered: by the order in which runs are begun, whichever of them are skipped (23.2).
func TestRecipesGathered(t *testing.T) {
	w := play(t, gathering(4, 5), "0:a add 1; 0:a add 2; 0:a add 3; 0:b add 9",
		"token 5; start 0:a 0; cancel 5; token 0; start 0:a 1; start 0:b 2; forget 0:a; start 0:a 3; await 0; await 1; await 2; await 3; call 0:a")
	w.Go(100)
	log(t, w, 0, "8 cancel f3:0:0 @0", "9 led v2 @0", "10 led v9 @0", "11 led v3 @0", "12 led v3 @5")
	loads(t, w, "1 [1 2 3 4] ended", "2 [5] ended")
}

// TestRecipesOfRefreshes: a refresh is a run of its key as any other (23.2).
func TestRecipesOfRefreshes(t *testing.T) {
	w := play(t, with(keeping, func(c *api.Config) { c.TTL = 1 }), "0:a add 1; 0:a add 2; 0:a add 3", "call 0:a; sleep 1; call 0:a; sleep 1; call 0:a; sleep 1; call 0:a")
	w.Go(100)
	log(t, w, 0, "0 led v1 @0", "2 stale v1 @1", "4 stale v2 @2", "6 stale v3 @3")
}

// TestStepOfLoad: each turn of a load is one step, behind which it is the last one of those who are ready (23.2).
func TestStepOfLoad(t *testing.T) {
	w := play(t, plainly, "0:a add 1 add 2 answer", "call 0:a; call 0:a", "token 1; token 1; token 1; token 1")
	for _, want := range [][]int{{0, 1}, {1, 2}, {2, 1}, {1, 2}, {2, 1}, {1, 2}, {2, 1}, {1, 0}, {0}} {
		awake(t, w, want...)
		turns(t, w, 1)
	}
	loads(t, w, "2 [1] ended", "3 [2] goes")
	awake(t, w, 3)
	finish(t, w, 3)
	log(t, w, 0, "0 led v3 @0", "1 led v3 @0")
}

// TestByCount: a load is sent with the run that makes it full, all of its runs in order, ahead of who began that one (23.2, 23.3).
func TestByCount(t *testing.T) {
	w := play(t, gathering(3, 5), "0:a add 1; 0:b add 2; 0:c add 3", "start 0:a 0; token 1", "sleep 2; start 0:b 0", "sleep 3; start 0:c 0; token 1")
	turns(t, w, 1)
	// The timer of the load is armed as it begins to gather.
	awake(t, w, 1, 2, 0)
	timers(t, w, "1@5")
	loads(t, w)
	happened(t, w, "0 begin r1 a", "0 join c1 n1 r1 h5 a")
	turns(t, w, 5)
	timers(t, w, "3@3", "1@5")
	turns(t, w, 2)
	timers(t, w)
	awake(t, w, 3, 2)
	since(t, w, 4, "3 begin r3 c", "3 join c3 n3 r3 h5 c", "3 send r1", "3 send r2", "3 send r3")
	loads(t, w, "3 [1 2 3] goes")
	turns(t, w, 6)
	loads(t, w, "3 [1 2 3] goes")
	turns(t, w, 1)
	since(t, w, 9, "3 end r1 v1 a", "3 tell c1 n1 r1 v1 a", "3 end r2 v2 b", "3 tell c2 n2 r2 v2 b", "3 end r3 v3 c", "3 tell c3 n3 r3 v3 c")
	finish(t, w, 0)
}

// TestByWindow: it is sent behind the leap to the tick at which it is due, and behind who is ready by that (23.2, 23.3).
func TestByWindow(t *testing.T) {
	w := play(t, gathering(3, 5), "0:a add 1; 0:b add 2", "sleep 1; start 0:a 0; sleep 5; token 1", "sleep 2; start 0:b 0; token 1", "sleep 6; token 1")
	for w.Now() < 2 {
		turns(t, w, 1)
	}
	// The load gathers from the tick 1 on.
	timers(t, w, "3@6", "4@6", "5@6")
	turns(t, w, 2)
	timers(t, w, "3@6", "4@6", "5@6")
	loads(t, w)
	awake(t, w)
	from := len(w.Events())
	turns(t, w, 1)
	awake(t, w, 2, 0, 3)
	timers(t, w)
	since(t, w, from, "6 send r1", "6 send r2")
	loads(t, w, "3 [1 2] goes")
	w.Go(100)
	since(t, w, from+2, "6 end r1 v1 a", "6 tell c1 n1 r1 v1 a", "6 end r2 v2 b", "6 tell c2 n2 r2 v2 b")
}

// TestByWindowAgain: behind one load the next one gathers, with a timer of its own (23.2, 23.3).
func TestByWindowAgain(t *testing.T) {
	w := play(t, gathering(2, 5), "", "start 0:a 0; start 0:b 0; start 0:c 0; sleep 2; start 0:d 0; start 0:e 0; sleep 9; forget 0:a")
	turns(t, w, 1)
	timers(t, w, "1@5")
	turns(t, w, 1)
	timers(t, w)
	turns(t, w, 1)
	timers(t, w)
	awake(t, w, 0, 1)
	turns(t, w, 1)
	timers(t, w, "2@5")
	w.Go(3)
	for w.Now() < 2 {
		turns(t, w, 1)
	}
	timers(t, w, "2@5")
	turns(t, w, 1)
	timers(t, w)
	turns(t, w, 1)
	// The run of c goes with that of d.
	loads(t, w, "1 [1 2] ended", "2 [3 4] goes")
	turns(t, w, 1)
	timers(t, w, "4@7")
	w.Go(100)
	loads(t, w, "1 [1 2] ended", "2 [3 4] ended", "3 [5] ended")
}

// TestWindowBeyond: no load is due beyond the greatest tick; one that is due at once is sent behind the turn (23.2).
func TestWindowBeyond(t *testing.T) {
	w := play(t, gathering(3, 9), "0:a add 7", fmt.Sprintf("sleep %d; call 0:a; sleep 5; start 0:b 0; token 1", last-4))
	turns(t, w, 3)
	timers(t, w, fmt.Sprintf("2@%d", last))
	turns(t, w, 1)
	awake(t, w, 1)
	turns(t, w, 4)
	if w.Now() != last {
		t.Fatal(w.Now())
	}
	awake(t, w, 0)
	turns(t, w, 1)
	awake(t, w, 0, 2)
	timers(t, w)
	loads(t, w, "1 [1] ended", "2 [2] goes")
	finish(t, w, 2)
	log(t, w, 0, fmt.Sprintf("1 led v7 @%d", last))
}

// TestAtOnce: with a batch of 1, or without a window, each run is a load of its own, and no timer is armed for it (23.2).
func TestAtOnce(t *testing.T) {
	for _, config := range []api.Config{gathering(1, 0), gathering(1, 9), gathering(5, 0)} {
		w := play(t, config, "", "start 0:a 0; start 0:b 0", "start 0:a 0")
		turns(t, w, 1)
		timers(t, w)
		loads(t, w, "2 [1] goes")
		awake(t, w, 1, 2, 0)
		w.Go(100)
		loads(t, w, "2 [1] ended", "3 [2] ended")
	}
}

// TestLoadAtGate: all runs of a load wait for the one that is at a gate (23.2, 23.3).
func TestLoadAtGate(t *testing.T) {
	w := play(t, gathering(3, 5), "0:a add 1; 0:b gate 3 add 2 gate 3 gate 4; 0:c sleep 1 add 3", "start 0:a 0; start 0:b 1; start 0:c 2; await 0", "sleep 1; open 3; sleep 1; open 4")
	for w.Now() < 1 {
		turns(t, w, 1)
	}
	loads(t, w, "2 [1 2 3] gate")
	waiting(t, w, 0, 1)
	turns(t, w, 1)
	awake(t, w, 2, 1)
	loads(t, w, "2 [1 2 3] goes")
	for w.Now() < 2 {
		turns(t, w, 1)
	}
	loads(t, w, "2 [1 2 3] gate")
	w.Go(100)
	loads(t, w, "2 [1 2 3] ended")
	log(t, w, 0, "3 led v1 @3")
	free(t, w, 0, true)
}

// TestLoadSleeps: it is ready when its timer rings, in the order of the timers (23.2, 23.3).
func TestLoadSleeps(t *testing.T) {
	w := play(t, plainly, "0:a sleep 4 sleep 0 add 7; 0:b sleep 4", "call 0:a", "sleep 4; token 1", "call 0:b")
	turns(t, w, 5)
	timers(t, w, "1@4", "2@4", "3@4")
	loads(t, w, "3 [1] sleeps", "4 [2] sleeps")
	awake(t, w)
	turns(t, w, 1)
	awake(t, w, 1, 3, 4)
	loads(t, w, "3 [1] goes", "4 [2] goes")
	turns(t, w, 3)
	timers(t, w, "4@4")
	loads(t, w, "3 [1] sleeps", "4 [2] ended")
	finish(t, w, 3)
	log(t, w, 0, "0 led v7 @4")
}

// TestLoadPanics: it ends at once, all of its runs with that failure, which is kept for each (23.2, 23.3).
func TestLoadPanics(t *testing.T) {
	config := with(gathering(3, 5), func(c *api.Config) { c.Negative, c.Entries = 5, 9 })
	w := play(t, config, "0:a add 1; 0:b panic -4; 0:c add 3", "start 0:a 0; start 0:b 1; start 0:c 2; await 0; await 1; await 2; call 0:c", "call 0:b")
	w.Go(100)
	since(t, w, 10, "0 end r1 f2:-4:2 a", "0 tell c1 n1 r1 f2:-4:2 a", "0 keep r1 f2:-4:2 a",
		"0 end r2 f2:-4:2 b", "0 tell c2 n2 r2 f2:-4:2 b", "0 tell c1 n3 r2 f2:-4:2 b", "0 keep r2 f2:-4:2 b",
		"0 end r3 f2:-4:2 c", "0 tell c1 n4 r3 f2:-4:2 c", "0 keep r3 f2:-4:2 c", "0 join c1 n5 h1 f2:-4:2 c")
	log(t, w, 0, "3 led f2:-4:2 @0", "4 joined f2:-4:2 @0", "5 led f2:-4:2 @0", "6 hit f2:-4:2 @0")
	log(t, w, 1, "0 led f2:-4:2 @0")
}

// TestLoadFails: a failure ends its own run alone, with the others of the load (23.2).
func TestLoadFails(t *testing.T) {
	w := play(t, gathering(2, 5), "0:a fail 9; 0:b add 3", "call 0:a", "call 0:b")
	w.Go(100)
	log(t, w, 0, "0 led f1:9:1 @0")
	log(t, w, 1, "0 led v3 @0")
}

// TestLoadEndOrder: who waits is told run by run, and ready in that order, if it waits for that (23.2, 23.3).
func TestLoadEndOrder(t *testing.T) {
	w := play(t, gathering(2, 50), "0:a gate 1; 0:b add 1",
		"sleep 3; call 0:b; token 1", "sleep 2; call 0:a; token 1", "sleep 4; start 0:b 0; await 0; token 1", "sleep 5; call 0:a; token 1", "sleep 6; start 0:a 0; open 1; sleep 1; await 0")
	for w.Now() < 6 {
		turns(t, w, 1)
	}
	turns(t, w, 6)
	awake(t, w, 1, 3, 0, 2)
	log(t, w, 4)
	w.Go(100)
	log(t, w, 4, "4 joined v0 @6")
	log(t, w, 2, "2 joined v1 @6")
	if w.Now() != 7 {
		t.Fatal(w.Now())
	}
}

// TestSkipped: a run whose token is cancelled ahead of its recipe's beginning is skipped, while it gathers and while it waits for others (23.2).
func TestSkipped(t *testing.T) {
	w := play(t, gathering(3, 5), "0:a add 1; 0:b gate 1 add 2; 0:c gate 2", "token 5; start 0:a 0; cancel 5; token 6; start 0:b 1; token 7; start 0:c 2; sleep 1; cancel 7; open 1; await 1")
	w.Go(100)
	since(t, w, 12, "1 leave c1 n3 r3 f3:0:0 c", "1 cancel r3 c", "1 abandon r3 g1 c",
		"1 end r1 f5:0:1 a", "1 end r2 v2 b", "1 tell c1 n2 r2 v2 b", "1 end r3 f5:0:3 c")
	log(t, w, 0, "10 led v2 @1")
}

// TestTokensOfRuns: each run has a token of its own: in one load, and in several at one time (23.2).
func TestTokensOfRuns(t *testing.T) {
	cook := " gate 1 skip 3 1 add 7 add 1"
	w := play(t, gathering(2, 5), "0:a"+cook+"; 0:b"+cook+"; 0:c"+cook+"; 0:d"+cook,
		"token 5; start 0:a 0; token 6; start 0:b 1; token 5; start 0:c 2; token 6; start 0:d 3; cancel 5; open 1")
	w.Go(1000)
	// a and c have begun when they are cancelled.
	var ends []string
	for _, e := range w.Events() {
		if e.Kind == api.EventEnd {
			ends = append(ends, line(e))
		}
	}
	texts(t, "the ends", ends, []string{"0 end r1 v1 a", "0 end r2 v8 b", "0 end r3 v1 c", "0 end r4 v8 d"})
}

// TestManyRuns: more runs than one set of tokens has room for: the last one is cancelled as the first one is (23.2).
func TestManyRuns(t *testing.T) {
	s := script(t, with(plainly, func(c *api.Config) { c.Flight = 4096 }), "0:b gate 1 heed add 7", "sleep 1; token 5; start 0:b 0; sleep 1; cancel 5; open 1")
	for n := range 257 {
		var l []api.Do
		for place := range 256 {
			l = append(l, api.Do{Op: api.DoStart, Key: api.Key{Space: uint16(n), Name: string([]byte{'k', byte(place)})}})
		}
		s.Clients = append(s.Clients, l)
	}
	w := open(t, s)
	w.Go(1 << 40)
	all := w.Events()
	texts(t, "the last event", lines(all[len(all)-1:]), []string{"2 end r65793 f5:0:65793 b"})
}

// TestManyAtOnce: as many clients as there may be, of one key and of a key each (23.2).
func TestManyAtOnce(t *testing.T) {
	for _, own := range []bool{false, true} {
		s := api.Script{Config: api.Config{Flight: 4096, Batch: 1024, Window: 3}}
		for n := range 1024 {
			k := a
			if own {
				k = api.Key{Space: uint16(n)}
			}
			s.Clients = append(s.Clients, []api.Do{{Op: api.DoCall, Key: k}})
		}
		w := open(t, s)
		w.Go(1 << 20)
		for n := range 1024 {
			tick := map[bool]int64{false: 3, true: 0}[own]
			if l := w.Log(n); len(l) != 1 || l[0].At != tick || !w.Ended(n) {
				t.Fatalf("the client %d: %v", n, had(w, n))
			}
		}
		if l := w.Loads(); len(l) != 1 || l[0].Task != 1024 || len(l[0].Runs) != map[bool]int{false: 1, true: 1024}[own] {
			t.Fatalf("%d loads", len(l))
		}
	}
}

// TestEndNotCurrent: what a run ends with that was forgotten is told to those who wait, and not kept (23.3).
func TestEndNotCurrent(t *testing.T) {
	w := play(t, keeping, "0:a gate 1 add 7", "start 0:a 0; forget 0:a; open 1; await 0; call 0:a")
	w.Go(100)
	since(t, w, 4, "0 end r1 v7 a", "0 tell c1 n1 r1 v7 a", "0 begin r2 g1 a", "0 join c1 n2 r2 h5 a", "0 send r2", "0 end r2 g1 v7 a", "0 tell c1 n2 r2 v7 a", "0 keep r2 v7 a")
}

// TestEndInPlace: an outcome in the place of an old one drops nothing (23.3).
func TestEndInPlace(t *testing.T) {
	config := with(keeping, func(c *api.Config) { c.Entries, c.Stale = 1, 0 })
	w := play(t, config, "0:a add 7; 0:a add 8; 0:a fail 1", "call 0:a; sleep 5; call 0:a; sleep 5; call 0:a")
	w.Go(100)
	since(t, w, 3, "0 end r1 v7 a", "0 tell c1 n1 r1 v7 a", "0 keep r1 v7 a", "5 begin r2 a", "5 join c1 n2 r2 h5 a", "5 send r2",
		"5 end r2 v8 a", "5 tell c1 n2 r2 v8 a", "5 keep r2 v8 a", "10 begin r3 a", "10 join c1 n3 r3 h5 a", "10 send r3",
		"10 end r3 f1:1:3 a", "10 tell c1 n3 r3 f1:1:3 a", "10 keep r3 f1:1:3 a")
}

// TestEndOver: an entry goes over the bound; a refresh of it is cancelled and abandoned, if nobody waits for it (23.3).
func TestEndOver(t *testing.T) {
	config := api.Config{TTL: 2, Stale: 2, Entries: 1, Flight: 4, Batch: 1}
	cooks := "0:a add 7; 0:a gate 1 heed add 8; 0:b add 9"
	w := play(t, config, cooks, "call 0:a; sleep 2; call 0:a; call 0:b; open 1; call 0:a")
	w.Go(100)
	since(t, w, 6, "2 begin r2 h1 a", "2 join c1 n2 h2 v7 a", "2 send r2", "2 begin r3 b", "2 join c1 n3 r3 h5 b", "2 send r3",
		"2 end r3 v9 b", "2 tell c1 n3 r3 v9 b", "2 keep r3 v9 b", "2 drop a", "2 cancel r2 a", "2 abandon r2 g1 a",
		"2 end r2 f5:0:2 a", "2 begin r4 g1 a", "2 join c1 n4 r4 h5 a", "2 send r4", "2 end r4 g1 v8 a", "2 tell c1 n4 r4 v8 a", "2 keep r4 v8 a", "2 drop b")
	// Somebody waits for the refresh, as the entry is too old to be told.
	w = play(t, config, cooks, "call 0:a; sleep 2; call 0:a; sleep 2; call 0:a", "sleep 4; sleep 0; call 0:b; open 1")
	w.Go(100)
	since(t, w, 9, "4 join c1 n3 r2 h3 a", "4 begin r3 b", "4 join c2 n4 r3 h5 b", "4 send r3", "4 end r3 v9 b", "4 tell c2 n4 r3 v9 b", "4 keep r3 v9 b", "4 drop a",
		"4 end r2 v8 a", "4 tell c1 n3 r2 v8 a", "4 keep r2 v8 a", "4 drop b")
}

// TestEndRefresh: a failure of a refresh leaves the old value where it is, and is told to those who wait (23.3).
func TestEndRefresh(t *testing.T) {
	config := api.Config{TTL: 2, Stale: 4, Negative: 9, Entries: 1, Flight: 4, Batch: 1}
	w := play(t, config, "0:a add 7; 0:a sleep 5 fail 1; 0:a add 8", "call 0:a; sleep 2; call 0:a; sleep 4; call 0:a; call 0:a; call 0:a")
	w.Go(100)
	since(t, w, 6, "2 begin r2 h1 a", "2 join c1 n2 h2 v7 a", "2 send r2", "6 join c1 n3 r2 h3 a", "7 end r2 f1:1:2 a", "7 tell c1 n3 r2 f1:1:2 a",
		"7 begin r3 a", "7 join c1 n4 r3 h5 a", "7 send r3", "7 end r3 v8 a", "7 tell c1 n4 r3 v8 a", "7 keep r3 v8 a", "7 join c1 n5 h1 v8 a")
}

// TestStaleBehindCurrent: one that is stale is told as long as its run is in progress, by which it is not named (23.3).
func TestStaleBehindCurrent(t *testing.T) {
	config := api.Config{TTL: 2, Stale: 4, Entries: 1, Flight: 1, Batch: 3, Window: 2}
	w := play(t, config, "0:a add 7", "call 0:a; sleep 2; call 0:a; call 0:a; sleep 2; call 0:a")
	w.Go(100)
	// The refresh is begun at 4, and gathers until 6.
	since(t, w, 6, "4 begin r2 h1 a", "4 join c1 n2 h2 v7 a", "4 join c1 n3 h2 v7 a", "6 send r2", "6 join c1 n4 h2 v7 a", "6 end r2 v7 a", "6 keep r2 v7 a")
}
