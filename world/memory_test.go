package world_test

import (
	"runtime"
	"slices"
	"testing"

	"convoy/api"
	"convoy/world"
)

// spoil overwrites a list, and what lies in the room behind its end.
func spoil[T any](l []T, with T) {
	l = l[:cap(l)]
	for i := range l {
		l[i] = with
	}
}

var (
	spoiltDo    = api.Do{Op: api.DoCall, Key: named("spoilt")}
	spoiltStep  = api.Step{Op: api.StepPanic, A: 99}
	spoiltEvent = api.Event{Kind: 1, Client: 99, Key: named("spoilt")}
	spoiltGot   = api.Got{Place: 99}
	spoiltRing  = api.Ring{Timer: 99, At: 99}
)

// roomy is a list with something in its spare room.
func roomy[T any](l []T, with T) []T {
	room := append(slices.Clone(l), slices.Repeat([]T{with}, 3)...)
	return room[:len(l)]
}

// roomyScript is a script by lot, whose lists all have spare room.
func roomyScript(seed int64) api.Script {
	s := newLots(seed).script()
	for i := range s.Recipes {
		s.Recipes[i].Steps = roomy(s.Recipes[i].Steps, spoiltStep)
	}
	for i := range s.Clients {
		s.Clients[i] = roomy(s.Clients[i], spoiltDo)
	}
	s.Recipes = roomy(s.Recipes, api.Recipe{Key: named("spoilt")})
	s.Clients = roomy(s.Clients, []api.Do{spoiltDo})
	s.Picks = roomy(s.Picks, 99)
	return s
}

// all is a list with what lies in its spare room.
func all[T any](l []T) []T { return l[:cap(l)] }

// sameScript is whether two scripts are the same, their spare room too.
func sameScript(x, y api.Script) bool {
	return x.Config == y.Config && x.Policy == y.Policy && x.Seed == y.Seed && slices.Equal(all(x.Picks)[:len(y.Picks)+3], all(y.Picks)[:len(y.Picks)+3]) &&
		slices.EqualFunc(all(x.Recipes)[:len(y.Recipes)+3], all(y.Recipes)[:len(y.Recipes)+3], func(r, q api.Recipe) bool {
			return r.Key == q.Key && slices.Equal(all(r.Steps), all(q.Steps))
		}) &&
		slices.EqualFunc(all(x.Clients)[:len(y.Clients)+3], all(y.Clients)[:len(y.Clients)+3], func(l, m []api.Do) bool {
			return slices.Equal(all(l), all(m))
		})
}

// TestHandedIn: a script that is handed in stays as it was, the spare room of its lists too (R4).
func TestHandedIn(t *testing.T) {
	for seed := range int64(300) {
		s, was := roomyScript(seed), roomyScript(seed)
		world.Check(s)
		open(t, s).Go(1 << 40)
		if !sameScript(s, was) {
			t.Fatalf("%d: changed what was handed in", seed)
		}
	}
	for _, spoils := range []func(s *api.Script){
		func(s *api.Script) { s.Config.Flight = 0 },
		func(s *api.Script) { s.Policy = 9 },
		func(s *api.Script) { s.Clients = s.Clients[:0] },
		func(s *api.Script) { s.Recipes[0].Steps = append(s.Recipes[0].Steps, wrongStep) },
	} {
		s := usual(t)
		spoils(&s)
		was := slices.Clone(s.Recipes)
		world.Check(s)
		world.New(s)
		if !slices.EqualFunc(s.Recipes, was, func(r, q api.Recipe) bool { return r.Key == q.Key && slices.Equal(r.Steps, q.Steps) }) {
			t.Fatal("changed what was handed in")
		}
	}
}

// TestScriptIsNotKept: what becomes of the lists that were handed in is nothing to the world (R4).
func TestScriptIsNotKept(t *testing.T) {
	for seed := range int64(300) {
		s := roomyScript(seed)
		w, other := open(t, s), open(t, roomyScript(seed))
		w.Go(int(seed % 5))
		for i := range s.Recipes {
			spoil(s.Recipes[i].Steps, spoiltStep)
		}
		for i := range s.Clients {
			spoil(s.Clients[i], spoiltDo)
		}
		spoil(s.Recipes, api.Recipe{Key: named("spoilt")})
		spoil(s.Clients, []api.Do{spoiltDo})
		spoil(s.Picks, 99)
		w.Go(1 << 40)
		other.Go(1 << 40)
		same(t, "spoilt", w, other)
	}
}

// spoilAll spoils all that a world hands out.
func spoilAll(w *world.World) {
	for range 2 {
		spoil(w.Ready(), 99)
		spoil(w.Told(), 99)
		spoil(w.Events(), spoiltEvent)
		spoil(w.Armed(), spoiltRing)
		for _, l := range w.Loads() {
			spoil(l.Runs, 99)
		}
		spoil(w.Loads(), api.Standing{Task: 99})
		for n := range 6 {
			spoil(w.Log(n), spoiltGot)
		}
	}
}

// TestHandedOut: what is handed out shares no memory with what is kept (R4).
func TestHandedOut(t *testing.T) {
	for seed := range int64(300) {
		script := newLots(8000000 + seed).script()
		w, p := open(t, script), newPlain(script)
		for more := true; more; more = w.Turn() {
			spoilAll(w)
			if err := equal(w, p, 0); err != nil {
				t.Fatalf("%d: %v", seed, err)
			}
			p.turn()
		}
	}
}

// TestAnswersApart: an answer shares no memory with another one, nor with a list of its own, and stays as the world goes on (R4).
func TestAnswersApart(t *testing.T) {
	config := gathering(3, 2)
	w := play(t, config, "0:a gate 1; 0:b sleep 9", "await 9; start 0:a 0; start 0:b 1; start 0:c 2; start 0:d 3; sleep 1; start 0:e 4; open 1; await 0", "sleep 2; sleep 7",
		"token 1; token 2; token 3; token 4; token 5; token 6; token 7; token 8; token 9")
	turns(t, w, 12)
	ready, told, events, armed, loads, log := w.Ready(), w.Told(), w.Events(), w.Armed(), w.Loads(), w.Log(0)
	wasReady, wasTold, wasEvents, wasArmed, wasLog := slices.Clone(ready), slices.Clone(told), slices.Clone(events), slices.Clone(armed), slices.Clone(log)
	if len(ready) == 0 || len(told) == 0 || len(events) == 0 || len(armed) == 0 || len(loads) == 0 || len(log) == 0 {
		t.Fatal("there is too little", ready, told, events, armed, loads, log)
	}
	runs := slices.Clone(loads[0].Runs)
	spoilAll(w)
	w.Go(100)
	spoilAll(w)
	if !slices.Equal(ready, wasReady) || !slices.Equal(told, wasTold) || !slices.Equal(events, wasEvents) || !slices.Equal(armed, wasArmed) ||
		!slices.Equal(log, wasLog) || !slices.Equal(loads[0].Runs, runs) {
		t.Fatal("an answer was changed")
	}
	loads = w.Loads()
	if len(loads) != 2 {
		t.Fatalf("%d loads", len(loads))
	}
	spoil(loads[0].Runs, 99)
	if !slices.Equal(loads[1].Runs, []int{4, 5}) {
		t.Fatalf("two lists of one answer share memory: %v", loads[1].Runs)
	}
}

// TestApart: two worlds know nothing of one another (R5).
func TestApart(t *testing.T) {
	for seed := range int64(200) {
		script := newLots(9000000 + seed).script()
		x, y, z := open(t, script), open(t, script), open(t, script)
		for x.Turn() {
			y.Turn()
		}
		z.Go(1 << 40)
		same(t, "side by side", x, y)
		same(t, "side by side, alone", x, z)
	}
}

// TestKeptNoLonger: a load's recipes are not kept behind its end, as nobody asks for them then.
func TestKeptNoLonger(t *testing.T) {
	s := api.Script{Config: plainly, Recipes: []api.Recipe{{Key: a, Steps: slices.Repeat([]api.Step{{Op: api.StepAnswer}}, 256)}}}
	for range 8 {
		s.Clients = append(s.Clients, slices.Repeat([]api.Do{{Op: api.DoCall, Key: a}, {Op: api.DoForget, Key: a}}, 128))
	}
	before := heap()
	w := open(t, s)
	w.Go(1 << 40)
	grown := heap() - before
	// A thousand recipes of 256 steps would be 6 MB.
	if grown > 3<<20 {
		t.Errorf("%d bytes are kept of %d loads", grown, len(w.Loads()))
	}
	runtime.KeepAlive(w)
}

// heap is how many bytes are in use.
func heap() int64 {
	var m runtime.MemStats
	runtime.GC()
	runtime.GC()
	runtime.ReadMemStats(&m)
	return int64(m.HeapAlloc)
}
