package tally_test

import (
	"testing"

	"convoy/api"
	"convoy/tally"
	"convoy/world"
)

// step is a step of a recipe by lot, of few gates and short sleeps.
func (l lots) step() api.Step {
	switch l.Intn(12) {
	case 0:
		return api.Step{Op: api.StepGate, A: l.Int63n(3)}
	case 1, 2, 3, 4:
		return api.Step{Op: api.StepSleep, A: l.Int63n(9)}
	case 5:
		return api.Step{Op: api.StepHeed}
	case 6:
		return api.Step{Op: api.StepSkip, A: l.Int63n(4), B: 1 + l.Int63n(2)}
	case 7:
		return []api.Step{{Op: api.StepFail, A: l.Int63n(3)}, {Op: api.StepPanic, A: l.Int63n(3)}, {Op: api.StepAnswer}}[l.Intn(3)]
	}
	return api.Step{Op: api.StepAdd, A: l.Int63n(9)}
}

// do is a thing to do by lot.
func (l lots) do(k api.Key) api.Do {
	switch l.Intn(18) {
	case 0, 1, 2, 3:
		return api.Do{Op: api.DoStart, Key: k, Slot: l.Intn(3)}
	case 4, 5:
		return api.Do{Op: api.DoAwait, Slot: l.Intn(3)}
	case 6:
		return api.Do{Op: api.DoForget, Key: k}
	case 7:
		return api.Do{Op: api.DoCancel, N: 1 + l.Int63n(3)}
	case 8, 9:
		return api.Do{Op: api.DoOpen, N: l.Int63n(3)}
	case 10:
		return api.Do{Op: api.DoShut, N: l.Int63n(3)}
	case 11, 12:
		return api.Do{Op: api.DoSleep, N: l.Int63n(6)}
	case 13:
		return api.Do{Op: api.DoToken, N: l.Int63n(4)}
	}
	return api.Do{Op: api.DoCall, Key: k}
}

// script is a script by lot in which all that can happen happens now and then.
func (l lots) script() api.Script {
	keys := []api.Key{{}, a, b, c}[:1+l.Intn(4)]
	s := api.Script{
		Config: api.Config{TTL: l.Int63n(7), Negative: l.Int63n(5), Stale: l.Int63n(7), Entries: l.Intn(3), Flight: 1 + l.Intn(3), Batch: 1 + l.Intn(3), Window: l.Int63n(4)},
		Seed:   l.Uint64(),
	}
	for range l.Intn(7) {
		r := api.Recipe{Key: keys[l.Intn(len(keys))]}
		for range l.Intn(6) {
			r.Steps = append(r.Steps, l.step())
		}
		s.Recipes = append(s.Recipes, r)
	}
	for range 1 + l.Intn(5) {
		program := []api.Do{{Op: api.DoToken, N: l.Int63n(4)}}
		for range l.Intn(14) {
			program = append(program, l.do(keys[l.Intn(len(keys))]))
		}
		s.Clients = append(s.Clients, program)
	}
	for range l.Intn(2) * l.Intn(20) {
		s.Picks = append(s.Picks, l.Intn(9)-4)
	}
	return s
}

func open(t testing.TB, s api.Script) *world.World {
	t.Helper()
	w, _, err := world.New(s)
	if err != api.OK {
		t.Fatalf("%+v: %d", s, err)
	}
	return w
}

// ofWorld looks that of a world's events all waits and lengths are counted, and that what the calls count goes together.
func ofWorld(t testing.TB, s saw, l []api.Event) {
	t.Helper()
	of, waits, lengths := tally.Of(l), tally.Waits(l), tally.Lengths(l)
	told, runs := tally.Shared(l)
	same(t, "all waits are counted", sum(waits[:]), told)
	same(t, "Tells", of.Kinds[4], told)
	same(t, "all lengths are counted", sum(lengths[:]), of.Kinds[5])
	same(t, "Kinds", sum(of.Kinds[:]), len(l))
	same(t, "others", of.Kinds[0], 0)
	same(t, "Hows", sum(of.Hows[:]), of.Kinds[1])
	same(t, "Ends", sum(of.Ends[:]), of.Kinds[5])
	same(t, "sizes of loads", sum(tally.Loads(l)), of.Kinds[3])
	if runs > of.Kinds[5] || of.Most > of.Kinds[2] || of.Hows[5] > of.Kinds[2] {
		t.Fatalf("%+v", of)
	}
	all := api.KeyTally{}
	for _, k := range tally.Keys(l) {
		all.Joins, all.Hits, all.Stales, all.Begins, all.Fails = all.Joins+k.Joins, all.Hits+k.Hits, all.Stales+k.Stales, all.Begins+k.Begins, all.Fails+k.Fails
	}
	// In a world nothing begins for which nobody asked.
	same(t, "Keys", all, api.KeyTally{Joins: of.Kinds[1], Hits: of.Hows[1], Stales: of.Hows[2], Begins: of.Kinds[2], Fails: of.Kinds[5] - of.Ends[0]})
	for _, bits := range []int{0, 2, 62} {
		all := api.Stretch{}
		for _, x := range ofBits(t, l, bits) {
			all.Joins, all.Begins, all.Ends = all.Joins+x.Joins, all.Begins+x.Begins, all.Ends+x.Ends
		}
		same(t, "Stretches", all, api.Stretch{Joins: of.Kinds[1], Begins: of.Kinds[2], Ends: of.Kinds[5]})
	}
	s["told"] += told
	s["of one run"] += told - runs
	s["waits above 0"] += told - waits[0]
	s["failures"] += of.Kinds[5] - of.Ends[0]
	for _, size := range tally.Loads(l) {
		if size > 1 {
			s["loads of several"]++
		}
	}
	for part, before := 0, int64(0); part <= 100; part++ {
		x, err := tally.Quantile(waits, part, 100)
		if err != api.OK || x < before || part == 0 && x != 0 {
			t.Fatalf("%v, %d: %d, %d behind %d", waits, part, x, err, before)
		}
		before = x
	}
}

// TestWorlds: of a world's events all waits are counted, as many as Shared tells, by many scripts, and all policies of each, behind each turn (26.4).
func TestWorlds(t *testing.T) {
	s := saw{}
	for seed := range int64(1500) {
		script := newLots(300000 + seed).script()
		for policy := range 5 {
			script.Policy = policy
			w := open(t, script)
			w.Go(1 << 40)
			ofWorld(t, s, w.Events())
			if policy == int(seed%5) {
				alike(t, w.Events())
			}
		}
		w := open(t, script)
		for n := 0; w.Turn(); n++ {
			if n%16 == int(seed%16) {
				ofWorld(t, saw{}, w.Events())
			}
		}
	}
	s.enough(t, 1000, "told", "of one run", "waits above 0", "failures", "loads of several")
}

// TestWorldByHand: two who ask at one time, and one who asks while what they had is fresh (26.1 to 26.3).
func TestWorldByHand(t *testing.T) {
	w := open(t, api.Script{
		Config:  api.Config{TTL: 5, Entries: 1, Flight: 4, Batch: 2, Window: 1},
		Recipes: []api.Recipe{{Key: a, Steps: []api.Step{{Op: api.StepSleep, A: 3}, {Op: api.StepAdd, A: 7}, {Op: api.StepAnswer}}}},
		Clients: [][]api.Do{{{Op: api.DoCall, Key: a}, {Op: api.DoCall, Key: a}}, {{Op: api.DoSleep, N: 1}, {Op: api.DoCall, Key: a}}},
	})
	w.Go(1000)
	l := w.Events()
	same(t, "Of", tally.Of(l), api.Tally{Kinds: [12]int{1: 3, 2: 1, 3: 1, 4: 2, 5: 1, 9: 1}, Hows: [7]int{1: 1, 3: 1, 5: 1}, Ends: [6]int{0: 1}, Keys: 1, Most: 1})
	// The load waits for a tick, and sleeps for three.
	same(t, "Waits", tally.Waits(l), in(3, 2))
	same(t, "Lengths", tally.Lengths(l), in(3))
	list(t, "Keys", tally.Keys(l), []api.KeyTally{{Key: a, Joins: 3, Hits: 1, Begins: 1}})
	list(t, "Loads", tally.Loads(l), []int{1})
	list(t, "Stretches", ofBits(t, l, 1), []api.Stretch{{From: 0, Joins: 2, Begins: 1}, {From: 4, Joins: 1, Ends: 1}})
	told, runs := tally.Shared(l)
	same(t, "Shared", []int{told, runs}, []int{2, 1})
}
