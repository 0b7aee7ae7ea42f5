package fleet_test

import (
	"reflect"
	"runtime"
	"slices"
	"strings"
	"testing"

	"convoy/api"
	"convoy/fleet"
)

// roomy is a list with something in its spare room.
func roomy[T any](l []T, with T) []T {
	room := append(slices.Clone(l), with, with, with)
	return room[:len(l):len(room)]
}

// roomyScripts is scripts by lot, all lists of which have spare room; each time they are asked for they are the same.
func roomyScripts(seed int64, n int) []api.Script {
	all := scripts(seed, n)
	for at := range all {
		s := &all[at]
		for n := range s.Recipes {
			s.Recipes[n].Steps = roomy(s.Recipes[n].Steps, api.Step{Op: 99})
		}
		for n := range s.Clients {
			s.Clients[n] = roomy(s.Clients[n], api.Do{Op: 99})
		}
		s.Recipes = roomy(s.Recipes, api.Recipe{Key: c})
		s.Clients = roomy(s.Clients, []api.Do{{Op: 99}})
		s.Picks = roomy(s.Picks, 99)
	}
	return roomy(all, api.Script{Policy: 99})
}

// whole is scripts with all that lies in the spare room of their lists.
func whole(l []api.Script) []api.Script {
	all := slices.Clone(l[:cap(l)])
	for at := range all {
		s := &all[at]
		s.Recipes = slices.Clone(s.Recipes[:cap(s.Recipes)])
		for n := range s.Recipes {
			s.Recipes[n].Steps = s.Recipes[n].Steps[:cap(s.Recipes[n].Steps)]
		}
		s.Clients = slices.Clone(s.Clients[:cap(s.Clients)])
		for n := range s.Clients {
			s.Clients[n] = s.Clients[n][:cap(s.Clients[n])]
		}
		s.Picks = s.Picks[:cap(s.Picks)]
	}
	return all
}

// TestHandedIn: scripts stay as they were, the spare room of all their lists too (R4).
func TestHandedIn(t *testing.T) {
	for seed := range int64(20) {
		l, was := roomyScripts(seed, 20), roomyScripts(seed, 20)
		unchanged := func(what string) {
			t.Helper()
			if !reflect.DeepEqual(whole(l), whole(was)) {
				t.Fatalf("%d: %s changed what was handed in", seed, what)
			}
		}
		for _, turns := range []int{0, 10, 1 << 40} {
			fleet.One(l[0], turns)
			unchanged("One")
			run(t, l, turns, 4)
			unchanged("Run")
			first(t, l, turns, 4)
			unchanged("First")
			schedules(t, l[1], turns, 4, 30, 5)
			unchanged("Schedules")
		}
		run(t, l[:0], 10, 4)
		fleet.Run(l, 10, 0)
		fleet.First(l, 10, 65)
		fleet.Schedules(l[1], 10, 1, -1, 5)
		unchanged("a call that is refused")
	}
}

// roomyReports is reports by lot with some in their spare room.
func roomyReports() []api.Report { return roomy(one(scripts(3, 60), 1<<40), full(5)) }

// TestReportsHandedIn: reports stay as they were, and what lies behind them is none of them (R4).
func TestReportsHandedIn(t *testing.T) {
	l, was := roomyReports(), roomyReports()
	unlike := fleet.Unlike(l)
	all, errors := fleet.Total(l)
	list(t, "reports", l[:cap(l)], was[:cap(was)])
	same(t, "Unlike", unlike, fleet.Unlike(slices.Clip(was)))
	total(t, slices.Clip(slices.Clone(was)), all, errors)
}

// spoil overwrites a list, and what lies in the room behind its end.
func spoil(l []api.Report) {
	l = l[:cap(l)]
	for n := range l {
		l[n] = full(n)
	}
}

// TestHandedOut: what is handed out is new each time, and shares nothing with another answer (R4).
func TestHandedOut(t *testing.T) {
	l := scripts(11, 20)
	want := one(l, 1000)
	x, y := run(t, l, 1000, 3), run(t, l, 1000, 3)
	spoil(x)
	list(t, "Run", y, want)
	list(t, "Run, again", run(t, l, 1000, 3), want)
	s := racing(t)
	lots := schedules(t, s, 1000, 1, 20, 5)
	was := slices.Clone(lots)
	spoil(schedules(t, s, 1000, 3, 20, 5))
	list(t, "Schedules", lots, was)
	list(t, "Schedules, again", schedules(t, s, 1000, 3, 20, 5), was)
}

// TestScriptsAreNotKept: what becomes of scripts behind a call is nothing to what it answered, nor to calls of others (R4, R5).
func TestScriptsAreNotKept(t *testing.T) {
	for seed := range int64(20) {
		l := roomyScripts(seed, 20)
		want := one(roomyScripts(seed, 20), 1<<40)
		reports := run(t, l, 1<<40, 4)
		for at := range l {
			for n := range l[at].Clients {
				for place := range l[at].Clients[n] {
					l[at].Clients[n][place] = api.Do{Op: api.DoSleep, N: 5}
				}
			}
			l[at].Recipes, l[at].Seed = nil, 9
		}
		list(t, "Run", reports, want)
		list(t, "Run of them as they are now", run(t, l, 1<<40, 4), one(l, 1<<40))
		list(t, "Run of others", run(t, roomyScripts(seed, 20), 1<<40, 4), want)
	}
}

// TestNothingIsKept: behind calls there is no more than ahead of them (rule 8 of the language).
func TestNothingIsKept(t *testing.T) {
	var before, after runtime.MemStats
	runtime.GC()
	runtime.ReadMemStats(&before)
	for round := range 20 {
		k := api.Key{Space: uint16(round), Name: strings.Repeat("n", 64)}
		s := api.Script{Config: keeping, Clients: slices.Repeat([][]api.Do{slices.Repeat([]api.Do{{Op: api.DoCall, Key: k}}, 50)}, 20)}
		l := slices.Repeat([]api.Script{s}, 20)
		fleet.Unlike(run(t, l, 1<<40, 8))
		fleet.Total(schedules(t, s, 1<<40, 8, 20, uint64(round)))
		first(t, l, 1<<40, 8)
	}
	ended(t, "all")
	runtime.GC()
	runtime.ReadMemStats(&after)
	if grown := int64(after.HeapAlloc) - int64(before.HeapAlloc); grown > 400000 {
		t.Errorf("%d bytes are kept", grown)
	}
}
