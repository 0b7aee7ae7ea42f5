package world_test

import (
	"math/rand"
	"slices"
	"testing"

	"convoy/api"
	"convoy/world"
)

// TestWaits: the caller of a call, and of what is awaited, which need not be the last one that asked (23.3).
func TestWaits(t *testing.T) {
	w := play(t, plainly, "0:a gate 1; 0:b gate 2; 0:c gate 3", "start 0:a 0; start 0:b 1; start 0:c 2; await 1; await 0; call 0:c", "token 1; sleep 1; open 2; sleep 1; open 1; sleep 1; open 3")
	for now, caller := range []int{2, 1, 4} {
		for w.Now() == int64(now) {
			turns(t, w, 1)
		}
		// Behind the leap, ahead of what it lets go on.
		waiting(t, w, 0, caller)
		free(t, w, 1, false)
	}
	w.Go(100)
	free(t, w, 0, true)
	free(t, w, 1, true)
	log(t, w, 0, "3 led v0 @1", "4 led v0 @2", "5 joined v0 @3")
}

// TestLoads: all that were sent stay, with how they stand, in the order in which they were sent (23.3).
func TestLoads(t *testing.T) {
	w := play(t, plainly, "0:a add 1; 0:b gate 5; 0:c sleep 3 sleep 4", "start 0:a 0; start 0:b 0; start 0:c 0")
	turns(t, w, 1)
	loads(t, w, "1 [1] goes")
	turns(t, w, 6)
	loads(t, w, "1 [1] ended", "2 [2] gate", "3 [3] sleeps")
	finish(t, w, 4)
	loads(t, w, "1 [1] ended", "2 [2] gate", "3 [3] ended")
	if l := w.Loads(); l[0].Wait != api.WaitNone || l[1].Wait != api.WaitGate || l[2].Wait != api.WaitNone {
		t.Fatalf("%v", l)
	}
}

// TestArmed: of who sleeps, of loads that sleep and of the load that gathers, in the order in which they will ring (23.3).
func TestArmed(t *testing.T) {
	w := play(t, gathering(2, 4), "0:a sleep 3", "start 0:a 0; start 0:b 0; start 0:c 0; sleep 2", "sleep 5")
	turns(t, w, 6)
	timers(t, w, "5@2", "3@3", "4@4", "2@5")
	for _, want := range [][]string{{"3@3", "4@4", "2@5"}, {"4@4", "2@5"}, {"4@4", "2@5"}, {"4@4", "2@5"}, {"2@5"}, {"2@5"}, {}} {
		turns(t, w, 1)
		timers(t, w, want...)
	}
}

// TestGroup: it is the group itself: what is done to it is done to the world (23.3).
func TestGroup(t *testing.T) {
	w := play(t, keeping, "0:a add 7", "call 0:a; sleep 1; call 0:a; sleep 1; token 5; call 0:a; token 0; call 0:a", "sleep 9")
	if w.Group() != w.Group() || w.Group() == nil {
		t.Fatal("another one")
	}
	for w.Now() < 1 {
		turns(t, w, 1)
	}
	if e, kept := w.Group().Entry(a); !kept || e.Outcome.Value != 7 || e.At != 0 {
		t.Fatalf("%v, %t", e, kept)
	}
	if f, err := w.Group().Forget(1, a); !f.Kept || err != api.OK || w.Group().Generation(a) != 1 {
		t.Fatalf("%v, %d", f, err)
	}
	if _, err := w.Group().Cancel(1, 5); err != api.OK {
		t.Fatal(err)
	}
	w.Go(100)
	log(t, w, 0, "0 led v7 @0", "2 led v7 @1", "5 cancel f3:0:0 @2", "7 hit v7 @2")
	since(t, w, 6, "1 begin r2 g1 a", "1 join c1 n2 r2 h5 a", "1 send r2", "1 end r2 g1 v7 a", "1 tell c1 n2 r2 v7 a", "1 keep r2 v7 a",
		"2 join c1 n3 h6 f3:0:0 a", "2 join c1 n4 h1 v7 a")
}

// TestGroupGuest: somebody who is no client may wait beside the clients: it is told with them, and is nobody's (23.3).
func TestGroupGuest(t *testing.T) {
	w := play(t, plainly, "0:a gate 1 add 7", "token 5; call 0:a", "token 5; call 0:a; sleep 1; cancel 6; open 1", "sleep 2; cancel 5")
	turns(t, w, 5)
	for caller := range 3 {
		if j, err := w.Group().Join(0, a, 900+caller, 4+caller); j.How != api.HowJoined || err != api.OK {
			t.Fatal(j, err)
		}
	}
	w.Go(100)
	since(t, w, 4, "2 leave c1 n1 r1 f3:0:0 a", "2 leave c2 n2 r1 f3:0:0 a", "2 leave n901 r1 f3:0:0 a", "3 leave n902 r1 f3:0:0 a",
		"3 end r1 v7 a", "3 tell n900 r1 v7 a")
	log(t, w, 0, "1 cancel f3:0:0 @2")
}

// TestGroupEndedByGuest: what somebody else has ended does not end again, and nothing is forgotten in a group whose time is ahead (R1).
func TestGroupEndedByGuest(t *testing.T) {
	w := play(t, keeping, "0:a add 7", "start 0:a 0; token 1; token 2; call 0:a; forget 0:a; await 0")
	turns(t, w, 1)
	if done, err := w.Group().End(0, 1, api.Outcome{Value: 8}); len(done.Told) != 1 || !done.Kept || err != api.OK {
		t.Fatal(done, err)
	}
	turns(t, w, 5)
	happened(t, w, "0 begin r1 a", "0 join c1 n1 r1 h5 a", "0 send r1", "0 join c1 n2 h1 v8 a")
	loads(t, w, "1 [1] ended")
	log(t, w, 0, "3 hit v8 @0")
	if _, err := w.Group().Send(1); err != api.OK {
		t.Fatal(err)
	}
	finish(t, w, 2)
	since(t, w, 4)
	waiting(t, w, 0, 1)
}

// meddle does something to the group of a world by lot.
func meddle(lot *rand.Rand, w *world.World) {
	g, now, k := w.Group(), w.Now(), []api.Key{a, b, c}[lot.Intn(3)]
	if lot.Intn(20) == 0 {
		now += lot.Int63n(3)
	}
	switch lot.Intn(6) {
	case 0:
		g.Join(now, k, 1+lot.Intn(20), lot.Intn(4))
	case 1:
		g.Leave(now, 1+lot.Intn(20))
	case 2:
		g.Cancel(now, 1+lot.Intn(3))
	case 3:
		g.Forget(now, k)
	case 4:
		g.End(now, 1+lot.Intn(10), api.Outcome{Value: 99})
	case 5:
		g.Send(now)
	}
}

// TestGroupMeddled: whatever is done to the group, no call panics, and all come to an end (R1).
func TestGroupMeddled(t *testing.T) {
	for seed := range int64(4000) {
		lot := newLots(5000000 + seed)
		w := open(t, lot.script())
		for more := true; more; more = w.Turn() {
			if lot.Intn(3) == 0 {
				meddle(lot.Rand, w)
			}
			for n := range 6 {
				w.Log(n)
				w.Ended(n)
				w.Waits(n)
			}
			if len(w.Armed()) > 0 && w.Quiet() {
				t.Fatalf("%d: quiet", seed)
			}
		}
		if !w.Quiet() || len(w.Ready()) > 0 || len(w.Events()) > 100000 || len(w.Loads()) > 1000 {
			t.Fatalf("%d: not quiet", seed)
		}
	}
}

// TestQueriesChangeNothing: whoever asks all the time sees the same as who never does (R5).
func TestQueriesChangeNothing(t *testing.T) {
	for seed := range int64(300) {
		script := newLots(6000000 + seed).script()
		asked, other := open(t, script), open(t, script)
		for asked.Turn() {
			for range 2 {
				asked.Quiet()
				asked.Turns()
				asked.Now()
				asked.Ready()
				asked.Events()
				asked.Armed()
				asked.Loads()
				asked.Told()
				asked.Group()
				asked.Go(0)
				for n := range 6 {
					asked.Log(n)
					asked.Ended(n)
					asked.Waits(n)
				}
			}
		}
		other.Go(1 << 40)
		same(t, "asked", asked, other)
	}
}

// TestByTurns: Go by parts is Go of their sum (23.2).
func TestByTurns(t *testing.T) {
	for seed := range int64(300) {
		lot := newLots(7000000 + seed)
		script := lot.script()
		parts, whole := open(t, script), open(t, script)
		sum := 0
		for range 6 {
			n := lot.Intn(10) - 2
			done := parts.Go(n)
			if done > max(n, 0) || done < n && !parts.Quiet() {
				t.Fatalf("%d: Go(%d): %d", seed, n, done)
			}
			sum += done
		}
		if parts.Turns() != sum || whole.Go(sum) != sum {
			t.Fatalf("%d: %d turns, not %d", seed, parts.Turns(), sum)
		}
		same(t, "by parts", parts, whole)
		if !slices.Equal(parts.Ready(), whole.Ready()) || !slices.Equal(parts.Armed(), whole.Armed()) {
			t.Fatalf("%d: not the same", seed)
		}
	}
}
