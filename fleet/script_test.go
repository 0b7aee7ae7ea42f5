package fleet_test

import (
	"math/rand"
	"reflect"
	"slices"
	"strings"
	"testing"

	"convoy/api"
	"convoy/client"
	"convoy/key"
	"convoy/recipe"
)

const last = 1 << 62 // the greatest tick

var a, b, c = api.Key{Name: "a"}, api.Key{Name: "b"}, api.Key{Space: 7, Name: "a"}

// plainly is a configuration by which nothing is kept, and each run is a load of its own.
var plainly = api.Config{Flight: 16, Batch: 1}

// keeping is one by which outcomes are kept, and told a while longer.
var keeping = api.Config{TTL: 5, Negative: 3, Stale: 4, Entries: 2, Flight: 3, Batch: 1}

// same holds what a call answers against what it should.
func same[T any](t testing.TB, what string, got, want T) {
	t.Helper()
	if !reflect.DeepEqual(got, want) {
		t.Fatalf("%s: %+v, not %+v", what, got, want)
	}
}

// list holds a list against another one; of no length and nil are the same.
func list[T comparable](t testing.TB, what string, got, want []T) {
	t.Helper()
	if !slices.Equal(got, want) {
		t.Fatalf("%s: %+v, not %+v", what, got, want)
	}
}

// program is the things to do of a text, which stand with "; " between them.
func program(t testing.TB, text string) []api.Do {
	t.Helper()
	if text == "" {
		return nil
	}
	l, at, err := client.Parse(strings.ReplaceAll(text, "; ", "\n") + "\n")
	if err != api.OK {
		t.Fatalf("%q: no program at %d: %d", text, at, err)
	}
	return l
}

// cook is the recipe of a text: a key, and steps behind a space.
func cook(t testing.TB, text string) api.Recipe {
	t.Helper()
	name, steps, _ := strings.Cut(text, " ")
	k, _, wrong := key.Parse(name)
	l, at, err := recipe.Parse(steps)
	if err != api.OK || wrong != api.OK {
		t.Fatalf("%q: no recipe at %d: %d, %d", text, at, err, wrong)
	}
	return api.Recipe{Key: k, Steps: l}
}

// script is a script by turn; the recipes stand with "; " between them.
func script(t testing.TB, config api.Config, cooks string, programs ...string) api.Script {
	t.Helper()
	s := api.Script{Config: config}
	if cooks != "" {
		for text := range strings.SplitSeq(cooks, "; ") {
			s.Recipes = append(s.Recipes, cook(t, text))
		}
	}
	for _, text := range programs {
		s.Clients = append(s.Clients, program(t, text))
	}
	return s
}

// with is a script that is changed; the one that is handed in keeps its lists, as change lays others in place of them.
func with(s api.Script, change func(s *api.Script)) api.Script {
	change(&s)
	return s
}

// lots is scripts by lot.
type lots struct{ *rand.Rand }

func newLots(seed int64) lots { return lots{rand.New(rand.NewSource(seed))} }

// step is a step of a recipe by lot, of few gates and short sleeps.
func (l lots) step() api.Step {
	switch l.Intn(12) {
	case 0:
		return api.Step{Op: api.StepGate, A: l.Int63n(3)}
	case 1, 2, 3:
		return api.Step{Op: api.StepSleep, A: l.Int63n(40)}
	case 4:
		return api.Step{Op: api.StepTurn, A: l.Int63n(64)}
	case 5:
		return api.Step{Op: api.StepHeed}
	case 6:
		return api.Step{Op: api.StepSkip, A: l.Int63n(4), B: 1 + l.Int63n(2)}
	case 7:
		return []api.Step{{Op: api.StepFail, A: l.Int63n(300) - 150}, {Op: api.StepPanic, A: l.Int63n(300) - 150}, {Op: api.StepAnswer}}[l.Intn(3)]
	}
	return api.Step{Op: api.StepAdd, A: l.Int63n(2000) - 1000}
}

// do is a thing to do by lot.
func (l lots) do(k api.Key) api.Do {
	switch l.Intn(18) {
	case 0, 1, 2, 3:
		return api.Do{Op: api.DoStart, Key: k, Slot: l.Intn(3)}
	case 4, 5:
		return api.Do{Op: api.DoAwait, Slot: l.Intn(3)}
	case 6:
		return api.Do{Op: api.DoForget, Key: k}
	case 7:
		return api.Do{Op: api.DoCancel, N: 1 + l.Int63n(3)}
	case 8, 9:
		return api.Do{Op: api.DoOpen, N: l.Int63n(3)}
	case 10:
		return api.Do{Op: api.DoShut, N: l.Int63n(3)}
	case 11, 12:
		return api.Do{Op: api.DoSleep, N: l.Int63n(6)}
	case 13:
		return api.Do{Op: api.DoToken, N: l.Int63n(4)}
	}
	return api.Do{Op: api.DoCall, Key: k}
}

// script is a script by lot in which all that can happen happens now and then.
func (l lots) script() api.Script {
	keys := []api.Key{{}, a, b, c}[:1+l.Intn(4)]
	s := api.Script{
		Config: api.Config{TTL: l.Int63n(7), Negative: l.Int63n(5), Stale: l.Int63n(7), Entries: l.Intn(3), Flight: 1 + l.Intn(3), Batch: 1 + l.Intn(3), Window: l.Int63n(4)},
		Policy: l.Intn(5),
		Seed:   l.Uint64(),
	}
	for range l.Intn(7) {
		r := api.Recipe{Key: keys[l.Intn(len(keys))]}
		for range l.Intn(6) {
			r.Steps = append(r.Steps, l.step())
		}
		s.Recipes = append(s.Recipes, r)
	}
	for range 1 + l.Intn(5) {
		program := []api.Do{{Op: api.DoToken, N: l.Int63n(4)}}
		for range l.Intn(14) {
			program = append(program, l.do(keys[l.Intn(len(keys))]))
		}
		s.Clients = append(s.Clients, program)
	}
	for range l.Intn(2) * l.Intn(20) {
		s.Picks = append(s.Picks, l.Intn(9)-4)
	}
	return s
}

// maybe is a script by lot of which one in eight may not be.
func (l lots) maybe() api.Script {
	s := l.script()
	switch l.Intn(40) {
	case 0:
		s.Config.Flight = 0
	case 1:
		s.Recipes = append(s.Recipes, api.Recipe{Key: a, Steps: []api.Step{{Op: 99}}})
	case 2:
		s.Clients = append(s.Clients, []api.Do{{Op: 99}})
	case 3:
		s.Policy = 5
	case 4:
		s.Clients = nil
	}
	return s
}

// scripts is so many scripts by lot.
func scripts(seed int64, n int) []api.Script {
	l := newLots(seed)
	var all []api.Script
	for range n {
		all = append(all, l.maybe())
	}
	return all
}

// saw is how often something was met with.
type saw map[string]int

func (s saw) enough(t testing.TB, n int, what ...string) {
	t.Helper()
	for _, w := range what {
		if s[w] < n {
			t.Errorf("%s: met with %d times only", w, s[w])
		}
	}
}
