package fleet_test

import (
	"math"
	"slices"
	"testing"

	"convoy/api"
	"convoy/fleet"
)

// run is the reports of some scripts, which may be played by so many goroutines.
func run(t testing.TB, l []api.Script, turns, workers int) []api.Report {
	t.Helper()
	reports, err := fleet.Run(l, turns, workers)
	if err != api.OK {
		t.Fatalf("of %d scripts by %d: %d", len(l), workers, err)
	}
	return reports
}

// schedules is the reports of a script by so many schedules.
func schedules(t testing.TB, s api.Script, turns, workers, n int, seed uint64) []api.Report {
	t.Helper()
	reports, err := fleet.Schedules(s, turns, workers, n, seed)
	if err != api.OK {
		t.Fatalf("%d by %d: %d", n, workers, err)
	}
	return reports
}

// one is the report of each of some scripts, one behind the other.
func one(l []api.Script, turns int) []api.Report {
	var all []api.Report
	for _, s := range l {
		all = append(all, fleet.One(s, turns))
	}
	return all
}

// sleepers is so many scripts, each of a client that sleeps as many ticks as its place is.
func sleepers(n int) []api.Script {
	var all []api.Script
	for at := range n {
		all = append(all, api.Script{Config: plainly, Clients: [][]api.Do{{{Op: api.DoSleep, N: int64(at)}}}})
	}
	return all
}

// TestExamples is those of the chapter (27.1).
func TestExamples(t *testing.T) {
	list(t, "nothing", run(t, nil, 10, 1), nil)
	if l, err := fleet.Run(sleepers(1), 10, 0); len(l) != 0 || err != api.ErrArg {
		t.Fatalf("by no workers: %v, %d", l, err)
	}
	same(t, "without programs", fleet.One(api.Script{Config: plainly}, 10).Err, api.ErrArg)
}

// TestRunNothing: of no scripts there are no reports, by as many workers as may be (27.1).
func TestRunNothing(t *testing.T) {
	for _, l := range [][]api.Script{nil, {}, sleepers(3)[:0]} {
		for _, workers := range []int{1, 2, 64} {
			list(t, "reports", run(t, l, 10, workers), nil)
		}
	}
}

// TestRunOrder: reports stand as their scripts do, by any number of workers, also by more than there are scripts (27.1).
func TestRunOrder(t *testing.T) {
	for _, n := range []int{1, 2, 3, 63, 64, 65, 200} {
		l := sleepers(n)
		for _, workers := range []int{1, 2, 3, 63, 64} {
			reports := run(t, l, 10, workers)
			same(t, "how many", len(reports), n)
			for at, r := range reports {
				same(t, "a report", r, got(2, true, int64(at), 1, 0, 0, "\n"))
			}
		}
	}
}

// TestRunUnevenly: a script that takes far longer than those behind it has its report in its place all the same (27.1).
func TestRunUnevenly(t *testing.T) {
	l := sleepers(200)
	for _, at := range []int{0, 1, 100, 199} {
		l[at].Clients = slices.Repeat([][]api.Do{slices.Repeat([]api.Do{{Op: api.DoCall, Key: a}}, 100)}, 20)
	}
	for _, workers := range []int{1, 2, 8, 64} {
		for at, r := range run(t, l, 1<<40, workers) {
			same(t, "the tick of a sleeper", r.Now, []int64{int64(at), 0}[min(r.Had, 1)])
			same(t, "what was had", r.Had == 2000, at%100 == 0 || at == 1 || at == 199)
		}
	}
}

// TestRunTurns: the turns are those of each script (27.1).
func TestRunTurns(t *testing.T) {
	for _, turns := range []int{math.MinInt, -1, 0, 1, 2, 3, math.MaxInt} {
		for at, r := range run(t, sleepers(20), turns, 3) {
			done := max(0, min(turns, 2))
			now := []int64{0, 0, int64(at)}[done]
			same(t, "a report", r, got(done, done == 2, now, done/2, 0, 0, "\n"))
		}
	}
}

// TestRunRefused: scripts that may not be have their error among the others (27.1).
func TestRunRefused(t *testing.T) {
	for what, x := range refused(t) {
		good := script(t, plainly, "", "sleep 5")
		for _, workers := range []int{1, 2, 64} {
			reports := run(t, []api.Script{good, x.s, good, x.s}, 10, workers)
			asleep := got(2, true, 5, 1, 0, 0, "\n")
			list(t, what, reports, []api.Report{asleep, x.want, asleep, x.want})
		}
	}
}

// wrongs is workers, and numbers of scripts, of which one or both may not be, with the error that is told.
var wrongs = []struct {
	workers, scripts int
	want             api.Errno
}{
	{0, 0, api.ErrArg}, {-1, 0, api.ErrArg}, {65, 0, api.ErrArg},
	{0, 1, api.ErrArg}, {-1, 1, api.ErrArg}, {65, 1, api.ErrArg}, {66, 1, api.ErrArg},
	{math.MinInt, 1, api.ErrArg}, {math.MaxInt, 1, api.ErrArg}, {1 << 32, 1, api.ErrArg}, {1<<32 + 1, 1, api.ErrArg},
	{0, 4096, api.ErrArg}, {65, 4096, api.ErrArg},
	{1, 4097, api.ErrMany}, {2, 4097, api.ErrMany}, {64, 4097, api.ErrMany}, {1, 5000, api.ErrMany},
	{0, 4097, api.ErrArg}, {-1, 4097, api.ErrArg}, {65, 4097, api.ErrArg}, {math.MaxInt, 4097, api.ErrArg},
}

// TestRunWrong: workers that may not be, too many scripts, and both (27.1).
func TestRunWrong(t *testing.T) {
	for _, x := range wrongs {
		if l, err := fleet.Run(make([]api.Script, x.scripts), 10, x.workers); len(l) != 0 || err != x.want {
			t.Fatalf("%d by %d: %d reports, %d, not %d", x.scripts, x.workers, len(l), err, x.want)
		}
	}
}

// TestRunMost: as many scripts as there may be, by few and by as many workers as there may be (27.1).
func TestRunMost(t *testing.T) {
	l := sleepers(api.MaxScripts)
	for _, workers := range []int{1, 2, 63, 64} {
		reports := run(t, l, 10, workers)
		same(t, "how many", len(reports), api.MaxScripts)
		for at, r := range reports {
			same(t, "a report", r, got(2, true, int64(at), 1, 0, 0, "\n"))
		}
	}
}

// byLot is a script as Schedules plays it in a place.
func byLot(s api.Script, seed uint64, place int) api.Script {
	s.Policy, s.Picks, s.Seed = api.PickLot, nil, mixed(seed+uint64(place))
	return s
}

// racing is a script in which whoever is picked first leads, and all others join.
func racing(t testing.TB) api.Script {
	t.Helper()
	return script(t, plainly, "0:a add 7 sleep 1", "call 0:a; sleep 2; call 0:b", "call 0:a; await 3", "call 0:a; call 0:c")
}

// TestSchedules: the schedule of each place is drawn by lot, by the seed and the place together (27.1).
func TestSchedules(t *testing.T) {
	s := racing(t)
	for _, seed := range []uint64{0, 1, 7, 1 << 63, math.MaxUint64 - 1, math.MaxUint64} {
		for _, n := range []int{0, 1, 2, 40} {
			var l []api.Script
			for place := range n {
				l = append(l, byLot(s, seed, place))
			}
			for _, turns := range []int{-1, 0, 4, 1000} {
				for _, workers := range []int{1, 3, 64} {
					list(t, "Schedules", schedules(t, s, turns, workers, n, seed), one(l, turns))
				}
			}
		}
	}
}

// TestSchedulesShift: those of a seed are those of the one below it but the first, also behind the greatest seed (27.1).
func TestSchedulesShift(t *testing.T) {
	s := racing(t)
	for _, seed := range []uint64{5, math.MaxUint64} {
		list(t, "Schedules", schedules(t, s, 1000, 2, 30, seed)[1:], schedules(t, s, 1000, 2, 29, seed+1))
	}
}

// TestSchedulesOwn: the policy, picks and seed that a script has of its own are nothing to its schedules, and stay as they were (27.1).
func TestSchedulesOwn(t *testing.T) {
	s := racing(t)
	want := schedules(t, s, 1000, 2, 40, 9)
	for _, x := range []api.Script{
		with(s, func(s *api.Script) { s.Policy = api.PickMost }),
		with(s, func(s *api.Script) { s.Policy = 99 }),
		with(s, func(s *api.Script) { s.Seed = 12345 }),
		with(s, func(s *api.Script) { s.Picks = []int{2, 1, 0, 2, 1} }),
		with(s, func(s *api.Script) { s.Picks = make([]int, api.MaxPicks+1) }),
		with(s, func(s *api.Script) { s.Policy, s.Seed, s.Picks = -1, math.MaxUint64, []int{-1} }),
	} {
		policy, seed, picks := x.Policy, x.Seed, slices.Clone(x.Picks)
		list(t, "Schedules", schedules(t, x, 1000, 2, 40, 9), want)
		same(t, "the policy", x.Policy, policy)
		same(t, "the seed", x.Seed, seed)
		list(t, "the picks", x.Picks, picks)
	}
}

// TestSchedulesUnlike: among enough schedules there is each way in which two can meet, and no other one (27.1).
func TestSchedulesUnlike(t *testing.T) {
	s := script(t, plainly, "0:a add 7", "call 0:a", "call 0:a")
	ways := []api.Report{
		got(4, true, 0, 2, 1, 2, "0 5 7 0 0 0 0 \n0 3 7 0 0 0 0 \n"),
		got(4, true, 0, 2, 1, 2, "0 3 7 0 0 0 0 \n0 5 7 0 0 0 0 \n"),
		got(6, true, 0, 2, 2, 2, "0 5 7 0 0 0 0 \n0 5 7 0 0 0 0 \n"),
	}
	times := map[api.Report]int{}
	for _, r := range schedules(t, s, 1000, 4, 200, 3) {
		times[r]++
	}
	same(t, "how many ways", len(times), len(ways))
	for _, way := range ways {
		if times[way] < 20 {
			t.Fatalf("%+v: met with %d times only", way, times[way])
		}
	}
}

// TestSchedulesRefused: a script that may not be has its error by each schedule (27.1).
func TestSchedulesRefused(t *testing.T) {
	for what, x := range refused(t) {
		if x.want.Err == api.ErrPolicy || what == "too many picks" {
			continue
		}
		list(t, what, schedules(t, x.s, 10, 2, 3, 7), []api.Report{x.want, x.want, x.want})
	}
}

// TestSchedulesWrong: workers or a number that may not be, and both (27.1).
func TestSchedulesWrong(t *testing.T) {
	all := append(slices.Clone(wrongs), []struct {
		workers, scripts int
		want             api.Errno
	}{
		{1, -1, api.ErrArg}, {64, -1, api.ErrArg}, {1, math.MinInt, api.ErrArg}, {0, -1, api.ErrArg}, {65, math.MinInt, api.ErrArg},
		{1, math.MaxInt, api.ErrMany}, {1, 1 << 32, api.ErrMany}, {0, math.MaxInt, api.ErrArg},
	}...)
	for _, x := range all {
		for _, s := range []api.Script{racing(t), {}} {
			if l, err := fleet.Schedules(s, 10, x.workers, x.scripts, 7); len(l) != 0 || err != x.want {
				t.Fatalf("%d by %d: %d reports, %d, not %d", x.scripts, x.workers, len(l), err, x.want)
			}
		}
	}
}

// TestSchedulesMost: as many schedules as there may be (27.1).
func TestSchedulesMost(t *testing.T) {
	s := racing(t)
	for _, workers := range []int{1, 64} {
		reports := schedules(t, s, 1000, workers, api.MaxScripts, 11)
		same(t, "how many", len(reports), api.MaxScripts)
		for _, at := range []int{0, 1, 2000, 4094, 4095} {
			same(t, "a report", reports[at], fleet.One(byLot(s, 11, at), 1000))
		}
	}
	list(t, "none", schedules(t, s, 1000, 1, 0, 11), nil)
}
