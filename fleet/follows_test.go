package fleet_test

import (
	"fmt"
	"runtime"
	"slices"
	"strings"
	"sync"
	"testing"
	"time"

	"convoy/api"
	"convoy/fleet"
	"convoy/world"
)

// TestRunIsOneOfEach: by many scripts, all of them unlike, and any number of workers, Run is One of each (27.3).
func TestRunIsOneOfEach(t *testing.T) {
	s := saw{}
	for seed := range int64(15) {
		l := scripts(1000+seed, 60)
		for _, turns := range []int{0, 15, 1 << 40} {
			want := one(l, turns)
			for _, workers := range []int{1, 2, 3, 7, 16, 63, 64} {
				list(t, "Run", run(t, l, turns, workers), want)
			}
			for n, r := range want {
				s.count(r, len(l[n].Clients))
			}
		}
	}
	s.enough(t, 100, "errors", "quiet", "not quiet", "all ended", "some ended", "nobody ended", "nothing had", "some had", "runs", "ticks")
}

// TestSchedulesAreOneOfEach: likewise of schedules (27.3).
func TestSchedulesAreOneOfEach(t *testing.T) {
	for seed := range int64(80) {
		s := newLots(2000 + seed).maybe()
		var l []api.Script
		for place := range 20 {
			l = append(l, byLot(s, uint64(seed)<<56, place))
		}
		want := one(l, 1<<40)
		for _, workers := range []int{1, 2, 5, 64} {
			list(t, "Schedules", schedules(t, s, 1<<40, workers, 20, uint64(seed)<<56), want)
		}
	}
}

// TestAgain: the same scripts play the same again and again, by the same workers (27.3, T7).
func TestAgain(t *testing.T) {
	l := scripts(77, 150)
	want := run(t, l, 1<<40, 8)
	at, r := first(t, l, 1<<40, 8)
	for range 30 {
		list(t, "Run", run(t, l, 1<<40, 8), want)
		again, other := first(t, l, 1<<40, 8)
		same(t, "First", again, at)
		same(t, "First", other, r)
	}
}

// TestFirstIsOfRun: First is the first of Run's reports that is broken or has an error (27.2, 27.3).
func TestFirstIsOfRun(t *testing.T) {
	s := saw{}
	for seed := range int64(300) {
		l := scripts(5000+seed, 10)
		at := slices.IndexFunc(run(t, l, 1<<40, 3), func(r api.Report) bool { return r.Err != api.OK || r.Broken >= 0 })
		for _, workers := range []int{1, 4} {
			got, r := first(t, l, 1<<40, workers)
			same(t, "the place", got, at)
			if at >= 0 {
				same(t, "the report", r, fleet.One(l[at], 1<<40))
				s["one"]++
				continue
			}
			same(t, "the report", r, api.Report{})
			s["none"]++
		}
	}
	s.enough(t, 50, "one", "none")
}

// TestNothingIsBroken: of no script, by no schedule, behind no turn, an event is broken (T1 to T6).
func TestNothingIsBroken(t *testing.T) {
	for seed := range int64(100) {
		for _, turns := range []int{20, 1 << 40} {
			for _, r := range schedules(t, newLots(7000+seed).script(), turns, 8, 20, uint64(seed)) {
				if r.Err != api.OK || r.Broken != -1 || r.Where != -1 {
					t.Fatalf("%d: %+v", seed, r)
				}
			}
		}
	}
}

// TestToldPlaysTheSame: by the picks that a world tells a script has the same report, whatever the policy (T7).
func TestToldPlaysTheSame(t *testing.T) {
	for seed := range int64(60) {
		s := newLots(8000 + seed).script()
		var l []api.Script
		for place := range 10 {
			w, _, err := world.New(byLot(s, uint64(seed), place))
			if err != api.OK {
				t.Fatal(err)
			}
			w.Go(1 << 40)
			l = append(l, with(s, func(s *api.Script) { s.Policy, s.Seed, s.Picks = place%5, 99, w.Told() }))
		}
		list(t, "Run", run(t, l, 1<<40, 4), schedules(t, s, 1<<40, 4, 10, uint64(seed)))
	}
}

// TestApartBySchedule: clients who share nothing have the same by each schedule, though their turns are others (T7).
func TestApartBySchedule(t *testing.T) {
	s := script(t, plainly, "0:a add 1 sleep 5; 0:b add 2 sleep 3; 7:a fail 3", "call 0:a; call 0:a", "sleep 1; call 0:b", "")
	reports := schedules(t, s, 1000, 4, 100, 1)
	same(t, "Unlike", fleet.Unlike(reports), 1)
	same(t, "Sum", reports[0].Sum, summed("0 5 1 0 0 0 5 1 5 1 0 0 0 10 \n1 5 2 0 0 0 4 \n\n"))
}

// TestManyCallsAtOneTime: calls that go on side by side know nothing of one another (27.3, R5).
func TestManyCallsAtOneTime(t *testing.T) {
	l := scripts(99, 60)
	want := one(l, 1<<40)
	s := racing(t)
	lots := schedules(t, s, 1<<40, 1, 30, 5)
	var calls sync.WaitGroup
	wrong := make([]bool, 24)
	for n := range wrong {
		calls.Go(func() {
			if n%2 == 0 {
				reports, err := fleet.Run(l, 1<<40, 1+n)
				wrong[n] = err != api.OK || !slices.Equal(reports, want)
				return
			}
			reports, err := fleet.Schedules(s, 1<<40, 1+n, 30, 5)
			wrong[n] = err != api.OK || !slices.Equal(reports, lots)
		})
	}
	calls.Wait()
	list(t, "which calls are wrong", wrong, make([]bool, 24))
}

// working is how many goroutines there are that calls of the fleet made.
func working() int {
	stacks := make([]byte, 1<<20)
	return strings.Count(string(stacks[:runtime.Stack(stacks, true)]), "created by convoy/fleet.")
}

// TestNoneGoesOn: when a call has answered none of its goroutines goes on (27.3).
func TestNoneGoesOn(t *testing.T) {
	l := append(scripts(5, 30), slices.Repeat([]api.Script{long(t)}, 5)...)
	for round := range 5 {
		for _, workers := range []int{1, 2, 5, 64} {
			run(t, l, 1<<40, workers)
			ended(t, fmt.Sprintf("Run by %d, round %d", workers, round))
			schedules(t, l[0], 1<<40, workers, 30, 5)
			ended(t, "Schedules")
			first(t, l, 1<<40, workers)
			ended(t, "First")
		}
		run(t, nil, 1<<40, 64)
		run(t, l[:1], 1<<40, 64)
		fleet.Run(l, 1<<40, 65)
		fleet.Run(make([]api.Script, api.MaxScripts+1), 1<<40, 64)
		fleet.Schedules(l[0], 1<<40, 65, 4, 5)
		fleet.One(l[0], 1<<40)
		ended(t, "others")
	}
}

// ended looks that no goroutine goes on. One that has told the wait group has nothing more to do, but may be there for a moment still.
func ended(t testing.TB, what string) {
	t.Helper()
	for range 2000 {
		if working() == 0 {
			return
		}
		time.Sleep(100 * time.Microsecond)
	}
	t.Fatalf("%s: %d goroutines go on", what, working())
}

// long is a script that takes a while.
func long(t testing.TB) api.Script {
	t.Helper()
	return api.Script{
		Config:  plainly,
		Recipes: []api.Recipe{cook(t, "0:a add 1 sleep 1")},
		Clients: slices.Repeat([][]api.Do{slices.Repeat([]api.Do{{Op: api.DoCall, Key: a}}, 60)}, 10),
	}
}

// most is how many goroutines there are at most, as far as was seen, while a call goes on.
func most(call func()) int {
	done := make(chan struct{})
	go func() {
		defer close(done)
		call()
	}()
	seen := 0
	for {
		select {
		case <-done:
			return seen
		default:
			seen = max(seen, working())
		}
	}
}

// TestSoMany: reports are made by so many goroutines as the call says, or as many as there are scripts, and never by more (27.1).
func TestSoMany(t *testing.T) {
	s := long(t)
	for _, x := range []struct{ workers, scripts, want int }{
		{1, 20, 1}, {2, 20, 2}, {3, 20, 3}, {7, 30, 7}, {20, 20, 20}, {63, 70, 63}, {64, 70, 64}, {64, 65, 64},
		{64, 1, 1}, {2, 1, 1}, {64, 3, 3}, {10, 9, 9},
	} {
		l := slices.Repeat([]api.Script{s}, x.scripts)
		reaches(t, fmt.Sprintf("Run of %d by %d", x.scripts, x.workers), x.want, func() { fleet.Run(l, 1<<40, x.workers) })
		reaches(t, fmt.Sprintf("Schedules of %d by %d", x.scripts, x.workers), x.want, func() { fleet.Schedules(s, 1<<40, x.workers, x.scripts, 7) })
		reaches(t, fmt.Sprintf("First of %d by %d", x.scripts, x.workers), x.want, func() { fleet.First(l, 1<<40, x.workers) })
	}
	reaches(t, "One", 0, func() { fleet.One(s, 1<<40) })
	reaches(t, "Run of nothing", 0, func() { fleet.Run(nil, 1<<40, 64) })
}

// reaches looks that a call has so many goroutines, and no more. As it may end ahead of being looked at, it is looked at again.
func reaches(t testing.TB, what string, want int, call func()) {
	t.Helper()
	seen := 0
	for range 200 {
		ended(t, what)
		seen = max(seen, most(call))
		if seen >= want {
			break
		}
	}
	if seen != want {
		t.Fatalf("%s: %d goroutines, not %d", what, seen, want)
	}
}
