package fleet_test

import (
	"math"
	"slices"
	"strings"
	"testing"

	"convoy/api"
	"convoy/fleet"
)

// got is the report of a world in which nothing is broken, by the text of what its clients had.
func got(turns int, quiet bool, now int64, ended, runs, had int, text string) api.Report {
	return api.Report{Turns: turns, Quiet: quiet, Now: now, Ended: ended, Runs: runs, Had: had, Sum: summed(text), Broken: -1, Where: -1}
}

// TestOne: what worlds come to that are let go on until they are quiet (27.1).
func TestOne(t *testing.T) {
	gates := api.Config{Flight: 1, Batch: 1}
	gathering := api.Config{Flight: 4, Batch: 2, Window: 6}
	for _, x := range []struct {
		what string
		s    api.Script
		want api.Report
	}{
		{"a client with nothing to do", script(t, plainly, "", ""), got(0, true, 0, 1, 0, 0, "\n")},
		{"one that sleeps", script(t, plainly, "", "sleep 3"), got(2, true, 3, 1, 0, 0, "\n")},
		{"three with nothing to do", script(t, plainly, "", "", "", ""), got(0, true, 0, 3, 0, 0, "\n\n\n")},
		{"two who share a run", script(t, plainly, "0:a add 7 answer", "call 0:a", "call 0:a"),
			got(4, true, 0, 2, 1, 2, "0 5 7 0 0 0 0 \n0 3 7 0 0 0 0 \n")},
		{"two who do not", script(t, plainly, "0:a add 7 answer; 0:b add -5", "call 0:a", "call 0:b"),
			got(6, true, 0, 2, 2, 2, "0 5 7 0 0 0 0 \n0 5 -5 0 0 0 0 \n")},
		{"one who had nothing between two who had", script(t, plainly, "0:a add 7 answer", "call 0:a", "sleep 1", "call 0:a"),
			got(6, true, 1, 3, 1, 2, "0 5 7 0 0 0 0 \n\n0 3 7 0 0 0 0 \n")},
		{"values and ticks of many digits", script(t, plainly, "0:a add 9223372036854775807; 0:b add -9223372036854775808",
			"sleep 4611686018427387903; call 0:a; sleep 9; call 0:b"),
			got(10, true, last, 1, 2, 2, "1 5 9223372036854775807 0 0 0 4611686018427387903 3 5 -9223372036854775808 0 0 0 4611686018427387904 \n")},
		{"a place of several digits", script(t, plainly, "", strings.Repeat("token 1; ", 255)+"await 15"),
			got(256, true, 0, 1, 0, 1, "255 0 0 0 0 0 0 \n")},
		{"failures", script(t, plainly, "0:a fail -12; 0:b panic 345; 0:b fail 6", "call 0:a; call 0:b; call 0:b"),
			got(6, true, 0, 1, 3, 3, "0 5 0 1 -12 1 0 1 5 0 2 345 2 0 2 5 0 1 6 3 0 \n")},
		{"who waits at a gate, and who meets busy", script(t, gates, "0:a gate 1 add 2", "call 0:a; call 0:a", "call 0:b; call 0:b"),
			got(4, true, 0, 1, 1, 2, "\n0 4 0 4 0 0 0 1 4 0 4 0 0 0 \n")},
		{"who leaves", script(t, plainly, "0:a gate 1", "token 10; call 0:a; await 1", "sleep 20; cancel 10; token 10; call 0:a"),
			got(9, true, 20, 2, 1, 3, "1 6 0 3 0 0 20 2 0 0 0 0 0 20 \n3 6 0 3 0 0 20 \n")},
		{"what is fresh, and stale, and loaded anew", script(t, keeping, "0:a add 10; 0:a add 200", "call 0:a; call 0:a; sleep 5; call 0:a; sleep 1; call 0:a"),
			got(12, true, 6, 1, 2, 4, "0 5 10 0 0 0 0 1 1 10 0 0 0 0 3 2 10 0 0 0 5 5 1 200 0 0 0 6 \n")},
		{"what was started, and is awaited", script(t, plainly, "0:a add 3 sleep 7", "start 0:a 2; sleep 30; await 2; start 0:a 2; await 2"),
			got(14, true, 37, 1, 2, 2, "2 5 3 0 0 0 7 4 5 3 0 0 0 37 \n")},
		{"what was started, and is not awaited", script(t, plainly, "0:a add 3", "start 0:a 2"), got(3, true, 0, 1, 1, 0, "\n")},
		{"a load of two, and one that waits for its window", script(t, gathering, "0:a add 1; 0:b add 2; 7:a add 3", "call 0:a; call 7:a", "call 0:b"),
			got(10, true, 6, 2, 3, 3, "0 5 1 0 0 0 0 1 5 3 0 0 0 6 \n0 5 2 0 0 0 0 \n")},
	} {
		same(t, x.what, fleet.One(x.s, 1<<40), x.want)
		same(t, x.what+", with just so many turns", fleet.One(x.s, x.want.Turns), x.want)
		same(t, x.what+", with one more", fleet.One(x.s, x.want.Turns+1), x.want)
		same(t, x.what+", with most", fleet.One(x.s, math.MaxInt), x.want)
	}
}

// TestOneTurns: of a world that is not at its end its report is that of the turns that there were (27.1).
func TestOneTurns(t *testing.T) {
	s := script(t, plainly, "0:a add 7 sleep 2 answer", "call 0:a; call 0:b", "call 0:a", "sleep 1")
	first, second := "\n\n\n", "0 5 7 0 0 0 2 \n0 3 7 0 0 0 2 \n\n"
	for _, x := range []struct {
		turns int
		want  api.Report
	}{
		{math.MinInt, got(0, false, 0, 0, 0, 0, first)},
		{-1, got(0, false, 0, 0, 0, 0, first)},
		{0, got(0, false, 0, 0, 0, 0, first)},
		{1, got(1, false, 0, 0, 1, 0, first)},
		{2, got(2, false, 0, 0, 1, 0, first)},
		{3, got(3, false, 0, 0, 1, 0, first)},
		{5, got(5, false, 0, 0, 1, 0, first)},
		{6, got(6, false, 1, 1, 1, 0, first)},
		{7, got(7, false, 2, 1, 1, 0, first)},
		{8, got(8, false, 2, 2, 1, 2, second)},
		{9, got(9, false, 2, 2, 2, 2, second)},
		{10, got(10, true, 2, 3, 2, 3, "0 5 7 0 0 0 2 1 5 0 0 0 0 2 \n0 3 7 0 0 0 2 \n\n")},
	} {
		same(t, "turns", fleet.One(s, x.turns), x.want)
	}
	same(t, "turns of a quiet world", fleet.One(script(t, plainly, "", ""), -1), got(0, true, 0, 1, 0, 0, "\n"))
}

// TestOneOrder: what clients had is told client by client, not in the order in which they had it (27.1).
func TestOneOrder(t *testing.T) {
	s := script(t, plainly, "0:a add 1; 0:b add 2", "sleep 5; call 0:a", "call 0:b; sleep 9; call 0:a", "await 3; call 0:b")
	want := "1 5 1 0 0 0 5 \n0 5 2 0 0 0 0 2 5 1 0 0 0 9 \n0 0 0 0 0 0 0 1 3 2 0 0 0 0 \n"
	same(t, "Sum", fleet.One(s, 1000).Sum, summed(want))
}

// refused is scripts that may not be, each with the error and the place that world.New tells.
func refused(t testing.TB) map[string]struct {
	s    api.Script
	want api.Report
} {
	good := script(t, plainly, "0:a add 7; 0:b add 8", "call 0:a", "call 0:b", "sleep 1")
	many := make([][]api.Do, api.MaxTasks+1)
	long := make([]api.Step, api.MaxSteps+1)
	for n := range long {
		long[n].Op = api.StepKey
	}
	return map[string]struct {
		s    api.Script
		want api.Report
	}{
		"nothing at all":             {api.Script{}, api.Report{Err: api.ErrConfig}},
		"no configuration":           {with(good, func(s *api.Script) { s.Config.Flight = 0 }), api.Report{Err: api.ErrConfig}},
		"a key of no recipe":         {with(good, func(s *api.Script) { s.Recipes = []api.Recipe{{Key: api.Key{Name: strings.Repeat("a", 65)}}} }), api.Report{Err: api.ErrScript}},
		"a step of the third recipe": {with(good, func(s *api.Script) { s.Recipes = append(slices.Clone(s.Recipes), api.Recipe{Steps: long}) }), api.Report{Err: api.ErrScript, At: 2}},
		"no programs":                {with(good, func(s *api.Script) { s.Clients = nil }), api.Report{Err: api.ErrArg}},
		"too many programs":          {with(good, func(s *api.Script) { s.Clients = many }), api.Report{Err: api.ErrMany, At: api.MaxTasks}},
		"the second program":         {with(good, func(s *api.Script) { s.Clients = [][]api.Do{nil, {{Op: 99}}, {{Op: 99}}} }), api.Report{Err: api.ErrScript, At: 1}},
		"no policy":                  {with(good, func(s *api.Script) { s.Policy = 5 }), api.Report{Err: api.ErrPolicy}},
		"a policy below 0":           {with(good, func(s *api.Script) { s.Policy = -1 }), api.Report{Err: api.ErrPolicy}},
		"too many picks":             {with(good, func(s *api.Script) { s.Picks = make([]int, api.MaxPicks+1) }), api.Report{Err: api.ErrMany}},
	}
}

// TestOneRefused: of a script that may not be there are the error and the place, and nothing else, whatever the turns (27.1).
func TestOneRefused(t *testing.T) {
	for what, x := range refused(t) {
		for _, turns := range []int{-1, 0, 1, 1000} {
			same(t, what, fleet.One(x.s, turns), x.want)
		}
	}
}

// TestOneMost: as many programs, and picks, as there may be (27.1).
func TestOneMost(t *testing.T) {
	s := api.Script{Config: plainly, Clients: make([][]api.Do, api.MaxTasks), Picks: make([]int, api.MaxPicks)}
	same(t, "with nothing to do", fleet.One(s, 1), got(0, true, 0, api.MaxTasks, 0, 0, strings.Repeat("\n", api.MaxTasks)))
	for n := range s.Clients {
		s.Clients[n] = []api.Do{{Op: api.DoCall, Key: a}, {Op: api.DoAwait}}
	}
	// By picks of 0 all ask at first, then the load does its one step, and each of them its await.
	told := "0 5 0 0 0 0 0 1 0 0 0 0 0 0 \n" + strings.Repeat("0 3 0 0 0 0 0 1 0 0 0 0 0 0 \n", api.MaxTasks-1)
	same(t, "with two things to do", fleet.One(s, 1<<40), got(2*api.MaxTasks+1, true, 0, api.MaxTasks, 1, 2*api.MaxTasks, told))
}
