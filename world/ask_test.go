package world_test

import (
	"fmt"
	"strings"
	"testing"

	"convoy/api"
)

// TestCallCancelled: who calls by a token that is cancelled has that at once, ahead of all else, and is a caller more (23.2, 23.3).
func TestCallCancelled(t *testing.T) {
	w := play(t, keeping, "0:a add 7", "call 0:a; cancel 3; token 3; call 0:a; call 0:b; token 0; call 0:a; token 4; call 0:a")
	finish(t, w, 11)
	since(t, w, 6, "0 join c1 n2 h6 f3:0:0 a", "0 join c1 n3 h6 f3:0:0 b", "0 join c1 n4 h1 v7 a", "0 join c1 n5 h1 v7 a")
	log(t, w, 0, "0 led v7 @0", "3 cancel f3:0:0 @0", "4 cancel f3:0:0 @0", "6 hit v7 @0", "8 hit v7 @0")
}

// TestCallAtOnce: who is told at once goes on, behind the load that is sent by that (23.2, 23.3).
func TestCallAtOnce(t *testing.T) {
	config := with(keeping, func(c *api.Config) { c.Flight = 1 })
	w := play(t, config, "0:a add 7; 0:b fail 2; 0:a gate 1", "call 0:a; call 0:a; call 0:b; call 0:b; sleep 5; call 0:a; call 0:a; call 0:b; call 0:b", "sleep 0; token 1")
	turns(t, w, 2)
	// The load of run 1 is ready, the second one sleeps.
	awake(t, w, 2)
	turns(t, w, 2)
	awake(t, w, 0)
	turns(t, w, 1)
	awake(t, w, 0)
	log(t, w, 0, "0 led v7 @0", "1 hit v7 @0")
	free(t, w, 0, false)
	turns(t, w, 3)
	log(t, w, 0, "0 led v7 @0", "1 hit v7 @0", "2 led f1:2:2 @0", "3 hit f1:2:2 @0")
	turns(t, w, 4)
	if w.Now() != 5 {
		t.Fatal(w.Now())
	}
	// A refresh is begun: its load is ready ahead of who is told.
	awake(t, w, 0)
	from := len(w.Events())
	turns(t, w, 1)
	awake(t, w, 4, 0)
	since(t, w, from, "5 begin r3 h1 a", "5 join c1 n5 h2 v7 a", "5 send r3")
	finish(t, w, 4)
	since(t, w, from+3, "5 join c1 n6 h2 v7 a", "5 join c1 n7 h4 f4:0:0 b", "5 join c1 n8 h4 f4:0:0 b")
	log(t, w, 0, "0 led v7 @0", "1 hit v7 @0", "2 led f1:2:2 @0", "3 hit f1:2:2 @0",
		"5 stale v7 @5", "6 stale v7 @5", "7 busy f4:0:0 @5", "8 busy f4:0:0 @5")
	loads(t, w, "2 [1] ended", "3 [2] ended", "4 [3] gate")
}

// TestCallWaits: who joins or leads waits, until it is told: the log has the Join's how, and the tick of the telling (23.2, 23.3).
func TestCallWaits(t *testing.T) {
	w := play(t, plainly, "0:a sleep 4 fail -3", "call 0:a; sleep 1", "sleep 2; call 0:a; token 1", "call 0:a")
	turns(t, w, 3)
	awake(t, w, 3)
	waiting(t, w, 0, 1)
	waiting(t, w, 2, 2)
	free(t, w, 1, false)
	turns(t, w, 3)
	waiting(t, w, 1, 3)
	awake(t, w)
	log(t, w, 0)
	turns(t, w, 2)
	// The last one is at its end.
	awake(t, w, 0, 1)
	log(t, w, 0, "0 led f1:-3:1 @4")
	log(t, w, 1, "1 joined f1:-3:1 @4")
	log(t, w, 2, "0 joined f1:-3:1 @4")
	free(t, w, 0, false)
	free(t, w, 1, false)
	free(t, w, 2, true)
	since(t, w, 5, "4 end r1 f1:-3:1 a", "4 tell c1 n1 r1 f1:-3:1 a", "4 tell c3 n2 r1 f1:-3:1 a", "4 tell c2 n3 r1 f1:-3:1 a")
	finish(t, w, 3)
}

// TestStart: who starts goes on, and what is told stands in the log when it is awaited: with the how and the tick of the telling, and the await's place (23.3).
func TestStart(t *testing.T) {
	w := play(t, plainly, "0:a sleep 3 add 7", "start 0:a 0; sleep 5; await 0; await 0")
	turns(t, w, 1)
	// Behind the load that is sent.
	awake(t, w, 1, 0)
	free(t, w, 0, false)
	happened(t, w, "0 begin r1 a", "0 join c1 n1 r1 h5 a", "0 send r1")
	w.Go(5)
	log(t, w, 0)
	since(t, w, 3, "3 end r1 v7 a", "3 tell c1 n1 r1 v7 a")
	turns(t, w, 1)
	awake(t, w, 0)
	turns(t, w, 1)
	log(t, w, 0, "2 led v7 @3")
	finish(t, w, 1)
	log(t, w, 0, "2 led v7 @3", "3 none v0 @5")
}

// TestPlaceOfAwait: what was started is had by its await, at whatever place that is, be the slot pending or full then; how and tick are those of the telling (23.3).
func TestPlaceOfAwait(t *testing.T) {
	for _, between := range []string{"token 0; ", "sleep 1; "} {
		for _, place := range []int{1, 2, 5, 6, 7, 254, 255} {
			text := "start 0:a 3; " + strings.Repeat(between, place-1) + "await 3"
			w := play(t, plainly, "0:a sleep 5 add 7", text, text)
			w.Go(1 << 40)
			log(t, w, 0, fmt.Sprintf("%d led v7 @5", place))
			log(t, w, 1, fmt.Sprintf("%d joined v7 @5", place))
		}
	}
}

// TestStartAtOnce: what is told at once is in the slot, too (23.3).
func TestStartAtOnce(t *testing.T) {
	config := with(keeping, func(c *api.Config) { c.Flight = 1 })
	w := play(t, config, "0:a add 7; 0:a gate 1", "call 0:a; cancel 2; start 0:a 1; token 2; start 0:a 2; token 0; sleep 6; start 0:a 3; start 0:b 15; await 1; await 2; await 3; await 15")
	finish(t, w, 17)
	since(t, w, 6, "0 join c1 n2 h1 v7 a", "0 join c1 n3 h6 f3:0:0 a", "6 begin r2 h1 a", "6 join c1 n4 h2 v7 a", "6 send r2", "6 join c1 n5 h4 f4:0:0 b")
	log(t, w, 0, "0 led v7 @0", "9 hit v7 @0", "10 cancel f3:0:0 @0", "11 stale v7 @6", "12 busy f4:0:0 @6")
	free(t, w, 0, true)
}

// TestStartJoins: starts of one key share a run, each with its slot (23.3).
func TestStartJoins(t *testing.T) {
	w := play(t, plainly, "0:a gate 1 add 7", "start 0:a 0; start 0:a 1; await 1; await 0", "start 0:a 1; open 1; await 0; await 1")
	w.Go(100)
	log(t, w, 0, "2 joined v7 @0", "3 led v7 @0")
	log(t, w, 1, "2 none v0 @0", "3 joined v7 @0")
}

// TestStartOver: into a pending slot; who was to be told there is told for nothing, be it ahead or behind (23.2, 23.3).
func TestStartOver(t *testing.T) {
	for _, first := range []string{"1", "2"} {
		second := map[string]string{"1": "2", "2": "1"}[first]
		w := play(t, plainly, "0:a gate 1 add 7; 0:b gate 2 add 8", "start 0:a 4; start 0:b 4; await 4; await 4", "sleep 1; open "+first+"; sleep 1; open "+second)
		turns(t, w, 6)
		loads(t, w, "2 [1] gate", "3 [2] gate")
		waiting(t, w, 0, 2)
		w.Go(100)
		// b's load waits at the gate 2.
		tick := map[string]string{"1": "2", "2": "1"}[first]
		log(t, w, 0, "2 led v8 @"+tick, "3 none v0 @"+tick)
		ends := map[string]string{"1": " v7 a", "2": " v8 b"}
		since(t, w, 6, "1 end r"+first+ends[first], "1 tell c1 n"+first+" r"+first+ends[first],
			"2 end r"+second+ends[second], "2 tell c1 n"+second+" r"+second+ends[second])
	}
}

// TestStartOverTold: who was to be told into a slot into which another one was told at once since (23.2).
func TestStartOverTold(t *testing.T) {
	w := play(t, keeping, "0:a gate 1 add 7; 0:b add 8", "call 0:b; start 0:a 4; start 0:b 4; open 1; sleep 1; await 4; await 4")
	w.Go(100)
	log(t, w, 0, "0 led v8 @0", "5 hit v8 @0", "6 none v0 @1")
}

// TestStartFull: into a full slot; what was there is gone (23.2, 23.3).
func TestStartFull(t *testing.T) {
	w := play(t, keeping, "0:a add 7; 0:b gate 1 add 8", "call 0:a; start 0:a 4; start 0:b 4; await 4; start 0:b 4; start 0:a 4; await 4; await 4", "sleep 2; open 1")
	turns(t, w, 8)
	waiting(t, w, 0, 3)
	log(t, w, 0, "0 led v7 @0")
	w.Go(100)
	log(t, w, 0, "0 led v7 @0", "3 led v8 @2", "6 hit v7 @2", "7 none v0 @2")
}

// TestAwaitEmpty: there is nothing, however often, and the client goes on (23.3).
func TestAwaitEmpty(t *testing.T) {
	w := play(t, plainly, "", "await 0; await 15; sleep 2; await 0", "token 1; token 2")
	turns(t, w, 1)
	awake(t, w, 1, 0)
	free(t, w, 0, false)
	log(t, w, 0, "0 none v0 @0")
	finish(t, w, 6)
	log(t, w, 0, "0 none v0 @0", "1 none v0 @0", "3 none v0 @2")
	happened(t, w)
	free(t, w, 0, true)
}

// TestAwaitPending: who awaits a pending slot waits for the slot's caller, and is ready when that is told; the slot is empty then (23.2, 23.3).
func TestAwaitPending(t *testing.T) {
	w := play(t, plainly, "0:a sleep 3 add 7", "start 0:a 9; await 9; await 9; await 8", "call 0:a")
	turns(t, w, 3)
	free(t, w, 0, false)
	turns(t, w, 1)
	awake(t, w)
	waiting(t, w, 0, 1)
	waiting(t, w, 1, 2)
	log(t, w, 0)
	turns(t, w, 3)
	awake(t, w, 0)
	free(t, w, 0, false)
	free(t, w, 1, true)
	log(t, w, 0, "1 led v7 @3")
	finish(t, w, 2)
	log(t, w, 0, "1 led v7 @3", "2 none v0 @3", "3 none v0 @3")
}

// TestAwaitAtTheEnd: who awaits at its end has ended when it is told, and not ahead of that (23.3).
func TestAwaitAtTheEnd(t *testing.T) {
	w := play(t, plainly, "0:a sleep 3 add 7", "start 0:a 9; await 9")
	turns(t, w, 3)
	waiting(t, w, 0, 1)
	turns(t, w, 3)
	awake(t, w)
	free(t, w, 0, true)
	if !w.Quiet() {
		t.Fatal("not quiet")
	}
}

// TestStartAtTheEnd: who starts at its end has ended, whether it is told or not (23.3).
func TestStartAtTheEnd(t *testing.T) {
	w := play(t, plainly, "0:a gate 1", "start 0:a 9")
	turns(t, w, 1)
	awake(t, w, 1)
	free(t, w, 0, true)
	finish(t, w, 1)
	free(t, w, 0, true)
}

// TestSlotsApart: the slots of two clients, and of one, are apart (23.3).
func TestSlotsApart(t *testing.T) {
	w := play(t, plainly, "0:a gate 1 add 7; 0:b gate 2 add 8", "start 0:a 1; await 0; await 1", "start 0:b 0; await 1; await 0", "sleep 1; open 2; sleep 1; open 1")
	w.Go(100)
	log(t, w, 0, "1 none v0 @0", "2 led v7 @2")
	log(t, w, 1, "1 none v0 @0", "2 led v8 @1")
}

// TestSlotsOfAll: each slot, with a run of its own, awaited from the last one on (23.3).
func TestSlotsOfAll(t *testing.T) {
	s := api.Script{Config: plainly, Recipes: recipes(t, "0:a run")}
	var l []api.Do
	for slot := range 16 {
		l = append(l, api.Do{Op: api.DoStart, Key: a, Slot: slot}, api.Do{Op: api.DoForget, Key: a})
	}
	for slot := range 16 {
		l = append(l, api.Do{Op: api.DoAwait, Slot: 15 - slot})
	}
	s.Clients = [][]api.Do{l}
	w := open(t, s)
	w.Go(1000)
	if len(w.Log(0)) != 16 {
		t.Fatal(w.Log(0))
	}
	for i, g := range w.Log(0) {
		if g.Outcome.Value != int64(16-i) || g.Place != 32+i || g.How != api.HowLed {
			t.Fatalf("at %d: %s", i, got(g))
		}
	}
}
