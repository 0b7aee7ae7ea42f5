package trace_test

import (
	"math/rand"
	"testing"

	"convoy/api"
	"convoy/world"
)

// someScript is a script by lot in which all that can happen happens now and then.
func someScript(lot *rand.Rand) api.Script {
	asked := []api.Key{{}, named("a"), named("b\n%"), {Space: 7}}
	one := func() api.Key { return asked[lot.Intn(len(asked))] }
	s := api.Script{Config: api.Config{TTL: lot.Int63n(6), Negative: lot.Int63n(6), Stale: lot.Int63n(6), Entries: lot.Intn(3), Flight: 1 + lot.Intn(3), Batch: 1 + lot.Intn(3), Window: lot.Int63n(3)}, Policy: api.PickLot, Seed: lot.Uint64()}
	ends := []api.Step{{Op: api.StepAnswer}, {Op: api.StepFail, A: -3}, {Op: api.StepPanic, A: 2}}
	for range lot.Intn(6) {
		s.Recipes = append(s.Recipes, api.Recipe{Key: one(), Steps: []api.Step{{Op: api.StepAdd, A: lot.Int63n(9) - 4}, {Op: api.StepSleep, A: lot.Int63n(4)}, {Op: api.StepHeed}, ends[lot.Intn(3)]}})
	}
	for range 1 + lot.Intn(4) {
		program := []api.Do{{Op: api.DoToken, N: lot.Int63n(3)}}
		for range lot.Intn(8) {
			program = append(program, []api.Do{
				{Op: api.DoCall, Key: one()}, {Op: api.DoCall, Key: one()}, {Op: api.DoStart, Key: one(), Slot: lot.Intn(3)}, {Op: api.DoAwait, Slot: lot.Intn(3)}, {Op: api.DoForget, Key: one()}, {Op: api.DoCancel, N: 1 + lot.Int63n(2)}, {Op: api.DoSleep, N: lot.Int63n(5)}, {Op: api.DoToken, N: lot.Int63n(3)},
			}[lot.Intn(8)])
		}
		s.Clients = append(s.Clients, program)
	}
	return s
}

// TestWorlds: all that happens in a world may be kept, told and read again (24.1, 24.2, 24.6).
func TestWorlds(t *testing.T) {
	w := saw{}
	for seed := range int64(1000) {
		played, _, err := world.New(someScript(rand.New(rand.NewSource(seed))))
		if err != api.OK {
			t.Fatal(err)
		}
		played.Go(1000)
		happened := played.Events()
		text := ""
		for _, e := range happened {
			w[forms[e.Kind-1].word]++
			text += lineByHand(e) + "\n"
		}
		readBack(t, happened, text)
		x := made(t, happened...)
		for _, run := range x.Runs() {
			begins := 0
			for _, n := range x.OfRun(run) {
				if e, _ := x.At(n); e.Kind == api.EventBegin {
					begins++
				}
			}
			if begins != 1 {
				t.Fatalf("seed %d: the run %d begins %d times", seed, run, begins)
			}
		}
	}
	for _, f := range forms {
		w.enough(t, 20, f.word)
	}
}
