package world_test

import (
	"fmt"
	"slices"
	"testing"

	"convoy/api"
)

// TestForget: without and with an entry, without and with a run, which goes on for those who wait (23.2, 23.3).
func TestForget(t *testing.T) {
	w := play(t, keeping, "0:a add 7; 0:b gate 1 add 8", "forget 0:a; call 0:a; forget 0:a; forget 0:a; call 0:b; forget 0:b", "sleep 1; forget 0:b; open 1; call 0:b")
	turns(t, w, 1)
	// The other one was ready ahead.
	awake(t, w, 1, 0)
	happened(t, w, "0 forget c1 g1 a")
	turns(t, w, 4)
	awake(t, w, 0)
	since(t, w, 1, "0 begin r1 g1 a", "0 join c1 n1 r1 h5 a", "0 send r1", "0 end r1 g1 v7 a", "0 tell c1 n1 r1 v7 a", "0 keep r1 v7 a")
	turns(t, w, 2)
	since(t, w, 7, "0 forget c1 g2 a", "0 drop a", "0 forget c1 g3 a")
	awake(t, w, 0)
	w.Go(100)
	// The run 2 is b's first one still for who waits for it, and not current: who asks leads another one.
	since(t, w, 10, "0 begin r2 b", "0 join c1 n2 r2 h5 b", "0 send r2", "1 forget c2 g1 b", "1 begin r3 g1 b", "1 join c2 n3 r3 h5 b", "1 send r3",
		"1 end r2 v8 b", "1 tell c1 n2 r2 v8 b", "1 forget c1 g2 b", "1 end r3 g1 v8 b", "1 tell c2 n3 r3 v8 b")
	log(t, w, 0, "1 led v7 @0", "4 led v8 @1")
}

// TestForgetRefresh: a refresh of what is forgotten is cancelled, if nobody waits for it; its loader heeds that (23.2, 23.3).
func TestForgetRefresh(t *testing.T) {
	config := with(keeping, func(c *api.Config) { c.TTL, c.Stale = 2, 3 })
	cooks := "0:a add 7; 0:a gate 1 heed add 8"
	w := play(t, config, cooks, "call 0:a; sleep 2; call 0:a; forget 0:a; open 1; call 0:a")
	w.Go(100)
	since(t, w, 6, "2 begin r2 h1 a", "2 join c1 n2 h2 v7 a", "2 send r2", "2 forget c1 g1 a", "2 drop a", "2 cancel r2 a", "2 end r2 f5:0:2 a",
		"2 begin r3 g1 a", "2 join c1 n3 r3 h5 a", "2 send r3", "2 end r3 g1 v8 a", "2 tell c1 n3 r3 v8 a", "2 keep r3 v8 a")
	// Who asks when the entry is too old to be told waits for the refresh.
	w = play(t, config, cooks, "call 0:a; sleep 2; call 0:a; sleep 3; call 0:a", "sleep 5; sleep 0; forget 0:a; open 1")
	w.Go(100)
	since(t, w, 9, "5 join c1 n3 r2 h3 a", "5 forget c2 g1 a", "5 drop a", "5 end r2 v8 a", "5 tell c1 n3 r2 v8 a")
	log(t, w, 0, "0 led v7 @0", "2 stale v7 @2", "4 joined v8 @5")
}

// TestCancelNobody: a token by which nobody waits; who asks by it later has that at once (23.2).
func TestCancelNobody(t *testing.T) {
	w := play(t, plainly, "0:a gate 1", "cancel 1; cancel 1; cancel 1024; token 1024; call 0:a", "call 0:a; token 1")
	turns(t, w, 1)
	awake(t, w, 1, 0)
	happened(t, w)
	w.Go(100)
	log(t, w, 0, "4 cancel f3:0:0 @0")
	waiting(t, w, 1, 1)
}

// TestCancelOne: who waits by the token leaves, and is ready; who did that behind it (23.2, 23.3).
func TestCancelOne(t *testing.T) {
	w := play(t, plainly, "0:a gate 1 heed add 7", "token 5; call 0:a; token 0; call 0:a", "call 0:a", "sleep 1; cancel 5; cancel 5; open 1")
	turns(t, w, 6)
	waiting(t, w, 0, 2)
	waiting(t, w, 1, 1)
	awake(t, w, 2)
	turns(t, w, 1)
	awake(t, w, 0, 2)
	since(t, w, 4, "1 leave c1 n2 r1 f3:0:0 a")
	log(t, w, 0, "1 cancel f3:0:0 @1")
	free(t, w, 0, false)
	// The run goes on for who is left.
	w.Go(100)
	log(t, w, 0, "1 cancel f3:0:0 @1", "3 joined v7 @1")
	log(t, w, 1, "0 led v7 @1")
	since(t, w, 5, "1 join c1 n3 r1 h3 a", "1 end r1 v7 a", "1 tell c2 n1 r1 v7 a", "1 tell c1 n3 r1 v7 a")
}

// TestCancelSeveral: all who wait by the token leave, in the order in which they asked, each ahead of what becomes of its run (23.2, 23.3).
func TestCancelSeveral(t *testing.T) {
	w := play(t, plainly, "0:a gate 1 heed; 0:b gate 1 heed",
		"token 5; start 0:a 0; start 0:b 1; call 0:a; await 1; await 0",
		"token 5; call 0:b", "token 6; call 0:b; token 5; token 5", "token 5; call 0:a; token 5", "sleep 1; cancel 5; cancel 6")
	// All at 0, and the leap.
	for w.Now() == 0 {
		turns(t, w, 1)
	}
	awake(t, w, 4)
	from := len(w.Events())
	turns(t, w, 1)
	// The run 2 has one left who waits by another token; the client 1 is at its end.
	since(t, w, from, "1 leave c1 n1 r1 f3:0:0 a", "1 leave c2 n2 r2 f3:0:0 b", "1 leave c4 n4 r1 f3:0:0 a", "1 leave c1 n5 r2 f3:0:0 b",
		"1 leave c1 n6 r1 f3:0:0 a", "1 cancel r1 a", "1 abandon r1 g1 a")
	awake(t, w, 3, 0, 4)
	free(t, w, 1, true)
	waiting(t, w, 2, 3)
	w.Go(100)
	since(t, w, from+7, "1 leave c3 n3 r2 f3:0:0 b", "1 cancel r2 b", "1 abandon r2 g1 b")
	log(t, w, 0, "3 cancel f3:0:0 @1", "4 cancel f3:0:0 @1", "5 cancel f3:0:0 @1")
	log(t, w, 1, "1 cancel f3:0:0 @1")
	log(t, w, 2, "1 cancel f3:0:0 @1")
	log(t, w, 3, "1 cancel f3:0:0 @1")
}

// TestCancelAbandons: the last one who leaves cancels the run's token and abandons it; its loader heeds that when it goes on (23.2, 23.3).
func TestCancelAbandons(t *testing.T) {
	w := play(t, plainly, "0:a gate 1 heed add 7", "token 5; call 0:a", "token 5; call 0:a; call 0:a", "sleep 1; cancel 5; token 7; call 0:a", "sleep 2; open 1")
	for w.Now() == 0 {
		turns(t, w, 1)
	}
	from := len(w.Events())
	turns(t, w, 1)
	since(t, w, from, "1 leave c1 n1 r1 f3:0:0 a", "1 leave c2 n2 r1 f3:0:0 a", "1 cancel r1 a", "1 abandon r1 g1 a")
	awake(t, w, 1, 2)
	loads(t, w, "4 [1] gate")
	w.Go(100)
	since(t, w, from+4, "1 join c2 n3 h6 f3:0:0 a", "1 begin r2 g1 a", "1 join c3 n4 r2 h5 a", "1 send r2",
		"2 end r1 f5:0:1 a", "2 end r2 g1 v7 a", "2 tell c3 n4 r2 v7 a")
	log(t, w, 0, "1 cancel f3:0:0 @1")
	log(t, w, 1, "1 cancel f3:0:0 @1", "2 cancel f3:0:0 @1")
	log(t, w, 2, "3 led v7 @2")
}

// TestCancelForgotten: a run that was forgotten is cancelled when all have left, and not abandoned (23.3).
func TestCancelForgotten(t *testing.T) {
	w := play(t, plainly, "0:a gate 1 heed", "token 5; start 0:a 0; forget 0:a; start 0:a 1; cancel 5; await 0; await 1")
	w.Go(100)
	since(t, w, 3, "0 forget c1 g1 a", "0 begin r2 g1 a", "0 join c1 n2 r2 h5 a", "0 send r2",
		"0 leave c1 n1 r1 f3:0:0 a", "0 cancel r1 a", "0 leave c1 n2 r2 f3:0:0 a", "0 cancel r2 g1 a", "0 abandon r2 g2 a")
	log(t, w, 0, "5 cancel f3:0:0 @0", "6 cancel f3:0:0 @0")
}

// TestCancelOwnStart: who started by its own token, and cancels it, has that in its slot; who awaits it is ready when it is cancelled (23.2, 23.3).
func TestCancelOwnStart(t *testing.T) {
	w := play(t, plainly, "0:a gate 1", "token 5; start 0:a 3; cancel 5; await 3; await 3", "token 6; start 0:a 3; await 3; token 1", "sleep 4; cancel 6")
	w.Go(100)
	log(t, w, 0, "3 cancel f3:0:0 @0", "4 none v0 @0")
	log(t, w, 1, "2 cancel f3:0:0 @4")
	free(t, w, 1, true)
}

// TestCancelOverwritten: who was to be told into a slot that another one has since leaves for nothing (23.2).
func TestCancelOverwritten(t *testing.T) {
	w := play(t, plainly, "0:a gate 1; 0:b add 8", "token 5; start 0:a 3; token 0; start 0:b 3; await 3; cancel 5; await 3")
	w.Go(100)
	log(t, w, 0, "4 led v8 @0", "6 none v0 @0")
	since(t, w, 8, "0 leave c1 n1 r1 f3:0:0 a", "0 cancel r1 a", "0 abandon r1 g1 a")
}

// TestOpen: loads that wait at the gate go on in the order in which they came, ahead of who opened it; others stay (23.2).
func TestOpen(t *testing.T) {
	w := play(t, plainly, "0:a gate 7 add 1; 0:b gate 7 add 2; 0:c gate 8 add 3",
		"start 0:a 0; start 0:c 1; token 1", "start 0:b 0", "sleep 1; open 9; open 7; open 7; shut 7; open 8")
	turns(t, w, 9)
	loads(t, w, "3 [1] gate", "4 [2] gate", "5 [3] gate")
	awake(t, w, 2)
	if w.Now() != 1 {
		t.Fatal(w.Now())
	}
	turns(t, w, 1)
	awake(t, w, 2)
	turns(t, w, 1)
	awake(t, w, 3, 4, 2)
	loads(t, w, "3 [1] goes", "4 [2] goes", "5 [3] gate")
	turns(t, w, 2)
	loads(t, w, "3 [1] goes", "4 [2] goes", "5 [3] gate")
	w.Go(100)
	loads(t, w, "3 [1] ended", "4 [2] ended", "5 [3] ended")
}

// TestOpenOrder: the order in which they came, not that in which they were sent (23.2).
func TestOpenOrder(t *testing.T) {
	s := script(t, plainly, "0:a gate 7; 0:b gate 7; 0:c gate 7", "start 0:a 0; start 0:b 1; start 0:c 2; sleep 1; open 7")
	// The client four times, then the loads from the last one to the first.
	s.Picks = []int{0, 1, 2, 3, -1, -1, -1}
	w := open(t, s)
	turns(t, w, 8)
	awake(t, w, 0)
	turns(t, w, 1)
	awake(t, w, 3, 2, 1)
}

// TestGateIsOpen: a load goes through an open gate without waiting, until it is shut (23.2).
func TestGateIsOpen(t *testing.T) {
	w := play(t, plainly, "0:a gate 255 gate 0 add 7", "open 255; open 0; call 0:a; shut 0; shut 255; shut 3; call 0:a")
	turns(t, w, 3)
	awake(t, w, 1)
	turns(t, w, 2)
	loads(t, w, "1 [1] goes")
	turns(t, w, 2)
	log(t, w, 0, "2 led v7 @0")
	finish(t, w, 5)
	loads(t, w, "1 [1] ended", "2 [2] gate")
	waiting(t, w, 0, 2)
}

// TestShut: a gate is shut for those who come; who shuts one is ready behind those who were so (23.2).
func TestShut(t *testing.T) {
	w := play(t, plainly, "0:a gate 1", "shut 1; shut 2; start 0:a 0; sleep 1; shut 1; open 1; shut 1; forget 0:a; start 0:a 0", "token 1; token 2")
	turns(t, w, 1)
	awake(t, w, 1, 0)
	w.Go(100)
	loads(t, w, "2 [1] ended", "3 [2] gate")
	free(t, w, 0, true)
}

// TestSleep: for no tick, for one and for as many as there are; who sleeps is ready when its timer rings, and not ahead of that (23.2, 23.3).
func TestSleep(t *testing.T) {
	for _, d := range []int64{0, 1, 7, last - 1, last} {
		w := play(t, plainly, "", fmt.Sprintf("sleep %d; await 0", d), "token 1; token 2")
		turns(t, w, 1)
		awake(t, w, 1)
		timers(t, w, fmt.Sprintf("1@%d", d))
		free(t, w, 0, false)
		turns(t, w, 2)
		awake(t, w)
		if w.Quiet() {
			t.Fatal("quiet")
		}
		turns(t, w, 1)
		awake(t, w, 0)
		timers(t, w)
		finish(t, w, 1)
		log(t, w, 0, fmt.Sprintf("1 none v0 @%d", d))
		if w.Now() != d {
			t.Fatalf("at %d", w.Now())
		}
	}
}

// TestSleepAtTheEnd: who sleeps has not ended; at its end it is not ready behind that (23.2, 23.3).
func TestSleepAtTheEnd(t *testing.T) {
	for _, d := range []int{0, 3} {
		w := play(t, plainly, "", fmt.Sprintf("sleep %d", d))
		turns(t, w, 1)
		free(t, w, 0, false)
		if w.Quiet() {
			t.Fatal("quiet")
		}
		turns(t, w, 1)
		free(t, w, 0, true)
		awake(t, w)
		finish(t, w, 0)
	}
}

// TestSleepBeyond: no timer is armed beyond the greatest tick (23.3).
func TestSleepBeyond(t *testing.T) {
	w := play(t, plainly, "0:a sleep 9 add 7", fmt.Sprintf("sleep %d; sleep 6; call 0:a; sleep %d", last-5, last))
	turns(t, w, 3)
	timers(t, w, fmt.Sprintf("2@%d", last))
	turns(t, w, 3)
	timers(t, w, fmt.Sprintf("3@%d", last))
	w.Go(100)
	log(t, w, 0, fmt.Sprintf("2 led v7 @%d", last))
	free(t, w, 0, true)
	if w.Now() != last || !w.Quiet() {
		t.Fatalf("at %d", w.Now())
	}
}

// TestSleepTogether: those who sleep until one tick are ready in the order in which their timers were armed; one leap is one turn (23.2).
func TestSleepTogether(t *testing.T) {
	s := script(t, plainly, "", "token 1; sleep 4; token 1", "sleep 4; token 1", "sleep 5; token 1", "sleep 4; token 1")
	w := open(t, s)
	turns(t, w, 5)
	timers(t, w, "1@4", "3@4", "4@4", "2@5")
	awake(t, w)
	turns(t, w, 1)
	awake(t, w, 1, 3, 0)
	timers(t, w, "2@5")
	turns(t, w, 4)
	awake(t, w, 2)
	if w.Now() != 5 || !slices.Equal(w.Told(), make([]int, 8)) {
		t.Fatalf("at %d, %v", w.Now(), w.Told())
	}
}

// TestSleepBehindReady: the clock stands as long as somebody is ready (23.2).
func TestSleepBehindReady(t *testing.T) {
	w := play(t, plainly, "0:a add 1 add 1 add 1", "sleep 0; call 0:a", "call 0:a; token 1; token 2")
	for range 8 {
		turns(t, w, 1)
		timers(t, w, "1@0")
	}
	turns(t, w, 1)
	timers(t, w)
	awake(t, w, 0)
	w.Go(100)
	log(t, w, 0, "1 led v3 @0")
}

// TestToken: who asks does so by the token that it had then, whatever it has later (23.2).
func TestToken(t *testing.T) {
	w := play(t, plainly, "0:a gate 1 add 7", "start 0:a 0; token 1; start 0:a 1; token 2; start 0:a 2; token 1024; start 0:a 3; token 0; start 0:a 4; cancel 1; cancel 1024; open 1; await 0; await 1; await 2; await 3; await 4")
	turns(t, w, 1)
	awake(t, w, 1, 0)
	w.Go(100)
	log(t, w, 0, "12 led v7 @0", "13 cancel f3:0:0 @0", "14 joined v7 @0", "15 cancel f3:0:0 @0", "16 joined v7 @0")
}

// TestLongProgram: as many things to do as there may be, each of them once (23.2).
func TestLongProgram(t *testing.T) {
	w := open(t, api.Script{Config: plainly, Clients: [][]api.Do{slices.Repeat([]api.Do{{Op: api.DoAwait}}, 256)}})
	finish(t, w, 256)
	if l := w.Log(0); len(l) != 256 || l[255].Place != 255 {
		t.Fatalf("%d", len(l))
	}
}
