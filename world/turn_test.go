package world_test

import (
	"slices"
	"testing"

	"convoy/api"
)

// TestExample: that of the chapter, turn by turn.
func TestExample(t *testing.T) {
	w := play(t, keeping, "0:a add 7 answer", "call 0:a", "call 0:a")
	awake(t, w, 0, 1)
	turns(t, w, 1)
	awake(t, w, 1, 2)
	happened(t, w, "0 begin r1 a", "0 join c1 n1 r1 h5 a", "0 send r1")
	waiting(t, w, 0, 1)
	loads(t, w, "2 [1] goes")
	turns(t, w, 1)
	awake(t, w, 2)
	waiting(t, w, 1, 2)
	turns(t, w, 1)
	awake(t, w, 2)
	since(t, w, 3, "0 join c2 n2 r1 h3 a")
	log(t, w, 0)
	turns(t, w, 1)
	awake(t, w)
	since(t, w, 4, "0 end r1 v7 a", "0 tell c1 n1 r1 v7 a", "0 tell c2 n2 r1 v7 a", "0 keep r1 v7 a")
	log(t, w, 0, "0 led v7 @0")
	log(t, w, 1, "0 joined v7 @0")
	loads(t, w, "2 [1] ended")
	free(t, w, 0, true)
	free(t, w, 1, true)
	finish(t, w, 0)
	if !slices.Equal(w.Told(), []int{0, 0, 0, 0}) || w.Turns() != 4 {
		t.Fatalf("Told, Turns: %v, %d", w.Told(), w.Turns())
	}
}

// TestExampleNotKept: without a TTL, or without room, there is no Keep.
func TestExampleNotKept(t *testing.T) {
	for _, config := range []api.Config{plainly, {TTL: 5, Flight: 1, Batch: 1}, {Entries: 5, Negative: 5, Flight: 1, Batch: 1}} {
		w := play(t, config, "0:a add 7 answer", "call 0:a", "call 0:a")
		finish(t, w, 4)
		since(t, w, 4, "0 end r1 v7 a", "0 tell c1 n1 r1 v7 a", "0 tell c2 n2 r1 v7 a")
	}
}

// TestFirstExampleOfTheWhole: two share a run, and who asks later has what was kept, or what is stale.
func TestFirstExampleOfTheWhole(t *testing.T) {
	config := api.Config{TTL: 5, Entries: 1, Flight: 4, Batch: 1}
	programs := []string{"call 0:a", "call 0:a", "sleep 7; call 0:a", "sleep 8; call 0:a"}
	w := play(t, config, "0:a sleep 3 add 7 answer", programs...)
	w.Go(100)
	log(t, w, 0, "0 led v7 @3")
	log(t, w, 1, "0 joined v7 @3")
	log(t, w, 2, "1 hit v7 @7")
	log(t, w, 3, "1 led v7 @11")
	config.Stale = 2
	w = play(t, config, "0:a sleep 3 add 7 answer", programs...)
	w.Go(100)
	log(t, w, 2, "1 hit v7 @7")
	log(t, w, 3, "1 stale v7 @8")
	since(t, w, 9, "8 begin r2 h1 a", "8 join c4 n4 h2 v7 a", "8 send r2", "11 end r2 v7 a", "11 keep r2 v7 a")
}

// TestSecondExampleOfTheWhole: the first of two leaves; if both do, the run is abandoned, and the next one who asks leads another.
func TestSecondExampleOfTheWhole(t *testing.T) {
	w := play(t, plainly, "0:a sleep 3 add 7 answer", "token 1; call 0:a", "token 2; call 0:a", "sleep 1; cancel 1")
	w.Go(100)
	log(t, w, 0, "1 cancel f3:0:0 @1")
	log(t, w, 1, "1 joined v7 @3")
	w = play(t, plainly, "0:a sleep 3 add 7 answer", "token 1; call 0:a", "token 2; call 0:a", "sleep 1; cancel 1; cancel 2; sleep 1; call 0:a")
	w.Go(100)
	log(t, w, 0, "1 cancel f3:0:0 @1")
	log(t, w, 1, "1 cancel f3:0:0 @1")
	log(t, w, 2, "4 led v7 @5")
	since(t, w, 4, "1 leave c1 n1 r1 f3:0:0 a", "1 leave c2 n2 r1 f3:0:0 a", "1 cancel r1 a", "1 abandon r1 g1 a",
		"2 begin r2 g1 a", "2 join c3 n3 r2 h5 a", "2 send r2", "3 end r1 v7 a", "5 end r2 g1 v7 a", "5 tell c3 n3 r2 v7 a")
}

// TestThirdExampleOfTheWhole: two runs gather, are sent as one load, and end together.
func TestThirdExampleOfTheWhole(t *testing.T) {
	w := play(t, api.Config{Flight: 4, Batch: 3, Window: 5}, "0:a add 1; 0:b sleep 2 add 2", "call 0:a", "sleep 2; call 0:b")
	w.Go(100)
	happened(t, w, "0 begin r1 a", "0 join c1 n1 r1 h5 a", "2 begin r2 b", "2 join c2 n2 r2 h5 b", "5 send r1", "5 send r2",
		"7 end r1 v1 a", "7 tell c1 n1 r1 v1 a", "7 end r2 v2 b", "7 tell c2 n2 r2 v2 b")
	loads(t, w, "2 [1 2] ended")
}

// TestFourthExampleOfTheWhole: too many runs are in progress.
func TestFourthExampleOfTheWhole(t *testing.T) {
	w := play(t, with(plainly, func(c *api.Config) { c.Flight = 1 }), "0:a gate 1", "call 0:a", "call 0:b")
	w.Go(100)
	log(t, w, 1, "0 busy f4:0:0 @0")
	waiting(t, w, 0, 1)
}

// TestGo: how many turns there were: none of numbers below 1, no more than that are asked for, and no more than there are (23.2).
func TestGo(t *testing.T) {
	for _, n := range []int{0, -1, -2, -1 << 63} {
		w := play(t, plainly, "0:a add 7", "call 0:a")
		if done := w.Go(n); done != 0 || w.Turns() != 0 || w.Quiet() {
			t.Fatalf("Go(%d): %d", n, done)
		}
		awake(t, w, 0)
		happened(t, w)
	}
	for _, n := range []int{1, 2, 3, 4, 5, 100, 1<<63 - 1} {
		// The call, the addition, the end of the recipe.
		w := play(t, plainly, "0:a add 7", "call 0:a")
		if done := w.Go(n); done != min(n, 3) || w.Turns() != done || w.Quiet() != (n >= 3) {
			t.Fatalf("Go(%d): %d, %d turns, quiet: %t", n, done, w.Turns(), w.Quiet())
		}
		if done := w.Go(n); done != min(3-min(n, 3), n) {
			t.Fatalf("Go(%d) again: %d", n, done)
		}
	}
}

// TestTurn: each turn is one step or one leap, and there is none when it is quiet, however often it is asked for (23.2).
func TestTurn(t *testing.T) {
	w := play(t, plainly, "0:a sleep 2 sleep 0", "sleep 5; call 0:a")
	for i, now := range []int64{0, 5, 5, 5, 7, 7, 7, 7} {
		if !w.Turn() || w.Now() != now || w.Turns() != i+1 {
			t.Fatalf("the turn %d: at %d, %d turns", i, w.Now(), w.Turns())
		}
	}
	for range 3 {
		if w.Turn() || !w.Quiet() || w.Now() != 7 || w.Turns() != 8 {
			t.Fatalf("quiet: %t, at %d, %d turns", w.Quiet(), w.Now(), w.Turns())
		}
	}
	// Leaps are no picks.
	if !slices.Equal(w.Told(), []int{0, 0, 0, 0, 0}) {
		t.Fatalf("Told: %v", w.Told())
	}
	log(t, w, 0, "1 led v0 @7")
}

// TestQuiet: not while somebody is ready or a timer is armed (23.2).
func TestQuiet(t *testing.T) {
	w := play(t, plainly, "0:a gate 1", "sleep 3", "call 0:a; call 0:a")
	for i := range 4 {
		if w.Quiet() {
			t.Fatalf("quiet behind %d turns", i)
		}
		turns(t, w, 1)
	}
	if !w.Quiet() || w.Now() != 3 {
		t.Fatalf("not quiet, at %d", w.Now())
	}
	loads(t, w, "2 [1] gate")
	waiting(t, w, 1, 1)
	free(t, w, 0, true)
}

// TestPicks: the schedule says whose turn it is, and behind its end the policy (23.2).
func TestPicks(t *testing.T) {
	for policy, behind := range map[int][]int{
		api.PickTurn:  {0, 0, 0, 0},
		api.PickLast:  {1, 0, 0, 0},
		api.PickLeast: {0, 1, 1, 0},
		api.PickMost:  {1, 0, 0, 0},
	} {
		s := script(t, plainly, "", "token 1; token 2; token 3", "token 1", "token 1; token 2")
		s.Policy, s.Picks = policy, []int{1, -1}
		w := open(t, s)
		// The place 1 of 0, 1, 2, who is at its end by that; then the last one of 0 and 2.
		turns(t, w, 1)
		awake(t, w, 0, 2)
		turns(t, w, 1)
		awake(t, w, 0, 2)
		finish(t, w, 4)
		if told := append([]int{1, 1}, behind...); !slices.Equal(w.Told(), told) {
			t.Fatalf("by the policy %d Told: %v, not %v", policy, w.Told(), told)
		}
	}
}

// TestPickLot: the seed draws the places (23.2).
func TestPickLot(t *testing.T) {
	told := map[uint64][]int{}
	for _, seed := range []uint64{0, 1, 2, 1 << 63} {
		s := script(t, plainly, "", "token 1; token 2; token 3", "token 1; token 2; token 3", "token 1; token 2; token 3")
		s.Policy, s.Seed = api.PickLot, seed
		w, p := open(t, s), newPlain(s)
		finish(t, w, 9)
		for p.turn() {
		}
		if !slices.Equal(w.Told(), p.told) {
			t.Fatalf("of the seed %d Told: %v, not %v", seed, w.Told(), p.told)
		}
		told[seed] = p.told
	}
	if slices.Equal(told[0], told[1]) || slices.Equal(told[1], told[2]) {
		t.Fatal("the seed is nothing to it")
	}
}
