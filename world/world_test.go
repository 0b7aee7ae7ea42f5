package world_test

import (
	"slices"
	"strings"
	"testing"

	"convoy/api"
	"convoy/world"
)

// refused looks that a script may not be, by Check and by New (23.1).
func refused(t *testing.T, s api.Script, at int, err api.Errno) {
	t.Helper()
	if gotAt, got := world.Check(s); gotAt != at || got != err {
		t.Fatalf("Check: %d, %d, not %d, %d", gotAt, got, at, err)
	}
	if w, gotAt, got := world.New(s); w != nil || gotAt != at || got != err {
		t.Fatalf("New: %v, %d, %d, not %d, %d", w != nil, gotAt, got, at, err)
	}
}

// taken looks that a script may be, by Check and by New (23.1).
func taken(t *testing.T, s api.Script) *world.World {
	t.Helper()
	if at, err := world.Check(s); at != 0 || err != api.OK {
		t.Fatalf("Check: %d, %d", at, err)
	}
	return open(t, s)
}

// usual is a script that may be.
func usual(t *testing.T) api.Script {
	t.Helper()
	return script(t, keeping, "0:a add 7; 0:b add 8; 0:a add 9", "call 0:a", "", "sleep 1; call 0:b")
}

// wrongConfigs is configurations that may not be, each by one part.
var wrongConfigs = []api.Config{
	{},
	with(plainly, func(c *api.Config) { c.TTL = -1 }),
	with(plainly, func(c *api.Config) { c.Negative = -1 }),
	with(plainly, func(c *api.Config) { c.Stale = -1 }),
	with(plainly, func(c *api.Config) { c.Entries = -1 }),
	with(plainly, func(c *api.Config) { c.Entries = 65537 }),
	with(plainly, func(c *api.Config) { c.Flight = 0 }),
	with(plainly, func(c *api.Config) { c.Flight = 4097 }),
	with(plainly, func(c *api.Config) { c.Batch = 0 }),
	with(plainly, func(c *api.Config) { c.Batch = 1025 }),
	with(plainly, func(c *api.Config) { c.Window = -1 }),
}

// rightConfigs is configurations at the edges of what may be.
var rightConfigs = []api.Config{
	{Flight: 1, Batch: 1},
	{TTL: 1<<63 - 1, Negative: 1<<63 - 1, Stale: 1<<63 - 1, Entries: 65536, Flight: 4096, Batch: 1024, Window: 1<<63 - 1},
}

var (
	wrongKey  = named(strings.Repeat("x", 65))
	rightKey  = named(strings.Repeat("x", 64))
	wrongStep = api.Step{Op: 13}
	wrongDo   = api.Do{Op: 10}
)

// wrongRecipes is recipes that may not be.
var wrongRecipes = []api.Recipe{
	{Key: wrongKey},
	{Key: a, Steps: []api.Step{wrongStep}},
	{Key: a, Steps: []api.Step{{Op: api.StepAdd, A: 1}, {Op: api.StepGate, A: 256}}},
	{Key: a, Steps: []api.Step{{Op: api.StepSleep, A: last + 1}}},
	{Key: a, Steps: slices.Repeat([]api.Step{{Op: api.StepKey}}, 257)},
	{Key: wrongKey, Steps: []api.Step{wrongStep}},
}

// wrongPrograms is programs that may not be.
var wrongPrograms = [][]api.Do{
	{wrongDo},
	{{Op: api.DoCall, Key: a}, {Op: api.DoCall, Key: wrongKey}},
	{{Op: api.DoSleep, N: last + 1}},
	{{Op: api.DoCancel}},
	{{Op: api.DoStart, Key: a, Slot: 16}},
	slices.Repeat([]api.Do{{Op: api.DoSleep}}, 257),
}

// TestCheckRight: scripts at the edges of what may be (23.1).
func TestCheckRight(t *testing.T) {
	taken(t, usual(t))
	for _, config := range rightConfigs {
		taken(t, script(t, config, "", "call 0:a"))
	}
	s := usual(t)
	s.Recipes = append(s.Recipes, api.Recipe{Key: rightKey}, api.Recipe{Key: named("")}, api.Recipe{Key: a, Steps: slices.Repeat([]api.Step{{Op: api.StepKey}}, 256)})
	s.Clients = append(s.Clients, slices.Repeat([]api.Do{{Op: api.DoSleep, N: last}}, 256), []api.Do{{Op: api.DoCall, Key: rightKey}})
	for policy := range 5 {
		s.Policy, s.Seed = policy, 1<<64-1
		taken(t, s)
	}
	s.Picks = make([]int, 65536)
	taken(t, s)
	taken(t, api.Script{Config: plainly, Clients: [][]api.Do{nil}})
	taken(t, api.Script{Config: plainly, Clients: [][]api.Do{{}}, Recipes: []api.Recipe{}, Picks: []int{}})
}

// TestCheckConfig: the error of group.New, ahead of all else (23.1).
func TestCheckConfig(t *testing.T) {
	for _, config := range wrongConfigs {
		s := usual(t)
		s.Config = config
		refused(t, s, 0, api.ErrConfig)
		s.Recipes = append(s.Recipes, wrongRecipes[0])
		refused(t, s, 0, api.ErrConfig)
		refused(t, api.Script{Config: config, Recipes: wrongRecipes, Policy: 5}, 0, api.ErrConfig)
		refused(t, api.Script{Config: config, Clients: wrongPrograms, Policy: -1}, 0, api.ErrConfig)
		refused(t, api.Script{Config: config, Clients: make([][]api.Do, 1025)}, 0, api.ErrConfig)
	}
}

// TestCheckRecipes: the place of the first one that may not be, ahead of what is wrong with the programs and the schedule (23.1).
func TestCheckRecipes(t *testing.T) {
	for _, wrong := range wrongRecipes {
		for at := range 4 {
			s := usual(t)
			s.Recipes = slices.Insert(s.Recipes, at, wrong)
			refused(t, s, at, api.ErrScript)
			s.Recipes = append(s.Recipes, wrongRecipes...)
			refused(t, s, at, api.ErrScript)
			s.Policy = 5
			for _, programs := range [][][]api.Do{nil, wrongPrograms, make([][]api.Do, 1025)} {
				s.Clients = programs
				refused(t, s, at, api.ErrScript)
			}
		}
	}
}

// TestCheckHowMany: no program, MaxTasks of them and one more, ahead of one that may not be, and of the schedule (23.1).
func TestCheckHowMany(t *testing.T) {
	s := usual(t)
	for _, none := range [][][]api.Do{nil, {}, make([][]api.Do, 0, 9)} {
		s.Clients, s.Policy = none, 0
		refused(t, s, 0, api.ErrArg)
		s.Policy = 5
		refused(t, s, 0, api.ErrArg)
	}
	s.Policy = 0
	s.Clients = make([][]api.Do, 1024)
	taken(t, s)
	for _, many := range []int{1025, 1026, 3000} {
		s.Clients, s.Policy = make([][]api.Do, many), 0
		refused(t, s, 1024, api.ErrMany)
		s.Clients[0], s.Policy = wrongPrograms[0], -1
		refused(t, s, 1024, api.ErrMany)
	}
}

// TestCheckPrograms: the place of the first one that may not be, ahead of the schedule (23.1).
func TestCheckPrograms(t *testing.T) {
	for _, wrong := range wrongPrograms {
		for at := range 4 {
			s := usual(t)
			s.Clients = slices.Insert(s.Clients, at, wrong)
			refused(t, s, at, api.ErrScript)
			s.Clients, s.Policy = append(s.Clients, wrongPrograms...), 5
			refused(t, s, at, api.ErrScript)
			s.Picks = make([]int, 65537)
			refused(t, s, at, api.ErrScript)
		}
	}
	s := usual(t)
	s.Clients = append(make([][]api.Do, 1023), wrongPrograms[0])
	refused(t, s, 1023, api.ErrScript)
}

// TestCheckSchedule: the errors of ready.New, in its order (23.1).
func TestCheckSchedule(t *testing.T) {
	for _, policy := range []int{-1, 5, 6, 1 << 40, -1 << 40} {
		s := usual(t)
		s.Policy = policy
		refused(t, s, 0, api.ErrPolicy)
		s.Picks = make([]int, 65537)
		refused(t, s, 0, api.ErrPolicy)
	}
	s := usual(t)
	for _, many := range []int{65537, 70000} {
		s.Picks = make([]int, many)
		refused(t, s, 0, api.ErrMany)
	}
}

// TestBeginning: a world at its beginning: all clients that have something to do are ready, in order, and nothing has happened (23.2, 23.3).
func TestBeginning(t *testing.T) {
	w := play(t, plainly, "0:a add 7", "", "call 0:a", "", "sleep 5", "token 1", "")
	for range 2 {
		awake(t, w, 1, 3, 4)
		happened(t, w)
		loads(t, w)
		timers(t, w)
		if w.Now() != 0 || w.Turns() != 0 || w.Quiet() || len(w.Told()) != 0 {
			t.Fatalf("Now, Turns, Quiet, Told: %d, %d, %t, %v", w.Now(), w.Turns(), w.Quiet(), w.Told())
		}
		for n := range 6 {
			log(t, w, n)
			free(t, w, n, n == 0 || n == 2 || n == 5)
		}
		if g := w.Group(); g.Config() != plainly || g.Now() != 0 || len(g.Progress()) != 0 || len(g.Entries()) != 0 {
			t.Fatalf("Group: %v, %d", g.Config(), g.Now())
		}
	}
}

// TestNothingToDo: a world of clients that have nothing to do is quiet at once (23.2).
func TestNothingToDo(t *testing.T) {
	w := open(t, api.Script{Config: plainly, Clients: make([][]api.Do, 3)})
	for range 2 {
		if !w.Quiet() || w.Turn() || w.Go(5) != 0 || w.Turns() != 0 {
			t.Fatal("it is not quiet")
		}
		awake(t, w)
		for n := range 3 {
			free(t, w, n, true)
		}
	}
}

// nothing looks that a world has nothing of all that can be asked.
func nothing(t *testing.T, w *world.World) {
	t.Helper()
	if w.Turn() || w.Go(10) != 0 || w.Turns() != 0 || w.Now() != 0 {
		t.Fatal("there is a turn")
	}
	for _, n := range nobodies {
		nobody(t, w, n)
	}
	nobody(t, w, 0)
	if len(w.Ready()) != 0 || len(w.Events()) != 0 || len(w.Armed()) != 0 || len(w.Loads()) != 0 || len(w.Told()) != 0 || w.Group() != nil {
		t.Fatal("there is something")
	}
}

// nobodies are numbers that are the place of no client of a few.
var nobodies = []int{-1, -2, 1 << 20, 1<<63 - 1, -1 << 63}

// nobody looks that there is no client of a place (23.3).
func nobody(t *testing.T, w *world.World, n int) {
	t.Helper()
	if caller, ok := w.Waits(n); len(w.Log(n)) != 0 || w.Ended(n) || caller != 0 || ok {
		t.Fatalf("the client %d: %v, %t, %d, %t", n, w.Log(n), w.Ended(n), caller, ok)
	}
}

// TestNil: every call on a nil World (23.4).
func TestNil(t *testing.T) {
	var w *world.World
	for range 2 {
		nothing(t, w)
		if w.Quiet() {
			t.Fatal("it is quiet")
		}
	}
}

// TestZero: a world that no call gave does no harm (R1).
func TestZero(t *testing.T) {
	for range 2 {
		nothing(t, new(world.World))
	}
}

// TestNobody: of clients that are none there is nothing, also behind all turns, and of tasks that are loads (23.3).
func TestNobody(t *testing.T) {
	w := open(t, usual(t))
	for more := true; more; more = w.Turn() {
		for _, n := range append([]int{3, 4, 5}, nobodies...) {
			nobody(t, w, n)
		}
	}
	if len(w.Loads()) != 2 {
		t.Fatal("there are no loads")
	}
}
