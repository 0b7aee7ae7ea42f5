package fleet_test

import (
	"math"
	"testing"

	"convoy/api"
	"convoy/fleet"
)

// sum is a report of which the Sum is told.
func sum(n uint64) api.Report { return api.Report{Sum: n, Broken: -1, Where: -1} }

// failing is a report of an error, with a Sum.
func failing(err api.Errno, n uint64) api.Report { return api.Report{Err: err, Sum: n} }

// TestUnlike: each Sum counts once, of the reports without an error (27.2).
func TestUnlike(t *testing.T) {
	for _, x := range []struct {
		what string
		l    []api.Report
		want int
	}{
		{"nothing", nil, 0},
		{"nothing", []api.Report{}, 0},
		{"nothing ahead of others", []api.Report{sum(1), sum(2)}[:0], 0},
		{"one", []api.Report{sum(7)}, 1},
		{"one of 0", []api.Report{sum(0)}, 1},
		{"one of nothing", []api.Report{{}}, 1},
		{"the same", []api.Report{sum(7), sum(7), sum(7)}, 1},
		{"two", []api.Report{sum(7), sum(8)}, 2},
		{"two, not side by side", []api.Report{sum(7), sum(8), sum(7), sum(8), sum(8)}, 2},
		{"greatest and least", []api.Report{sum(0), sum(1), sum(1 << 63), sum(math.MaxUint64), sum(1 << 32), sum(1<<32 + 1), sum(0)}, 6},
		{"an error", []api.Report{failing(api.ErrArg, 0)}, 0},
		{"errors alone", []api.Report{failing(api.ErrArg, 0), failing(api.ErrConfig, 5), failing(-1, 6)}, 0},
		{"errors with Sums of their own", []api.Report{sum(7), failing(api.ErrArg, 8), failing(api.ErrArg, 0), sum(7)}, 1},
		{"an error ahead of the same Sum", []api.Report{failing(api.ErrArg, 7), sum(7)}, 1},
		{"all else is nothing to it", []api.Report{sum(7), {Sum: 7, Turns: 5, Quiet: true, Now: 9, Ended: 3, Runs: 2, Had: 1, Broken: 4, Where: 3, At: 6}}, 1},
		{"all but the Sum are the same", []api.Report{{Sum: 7, Turns: 5, Broken: 2}, {Sum: 8, Turns: 5, Broken: 2}}, 2},
	} {
		same(t, x.what, fleet.Unlike(x.l), x.want)
	}
}

// TestUnlikeMany: as many as a call gives, each of a Sum of its own, and each twice (27.2).
func TestUnlikeMany(t *testing.T) {
	var l []api.Report
	for n := range 2 * api.MaxScripts {
		l = append(l, sum(mixed(uint64(n%api.MaxScripts))))
		same(t, "Unlike", fleet.Unlike(l[n:]), 1)
	}
	same(t, "Unlike", fleet.Unlike(l), api.MaxScripts)
}

// first is what First tells of scripts by workers that may be.
func first(t testing.TB, l []api.Script, turns, workers int) (int, api.Report) {
	t.Helper()
	at, r, err := fleet.First(l, turns, workers)
	if err != api.OK {
		t.Fatalf("%d by %d: %d", len(l), workers, err)
	}
	return at, r
}

// TestFirst: the first script with an error, wherever it stands, and none (27.2).
func TestFirst(t *testing.T) {
	good := script(t, plainly, "", "sleep 5")
	none := api.Script{Config: plainly}
	second := script(t, plainly, "", "", "")
	second.Clients[1] = []api.Do{{Op: 99}}
	for _, x := range []struct {
		what string
		l    []api.Script
		at   int
		want api.Report
	}{
		{"nothing", nil, -1, api.Report{}},
		{"nothing", []api.Script{}, -1, api.Report{}},
		{"nothing ahead of one", []api.Script{none}[:0], -1, api.Report{}},
		{"a good one", []api.Script{good}, -1, api.Report{}},
		{"good ones", []api.Script{good, good, good, good}, -1, api.Report{}},
		{"the only one", []api.Script{none}, 0, api.Report{Err: api.ErrArg}},
		{"the first one", []api.Script{second, good, none}, 0, api.Report{Err: api.ErrScript, At: 1}},
		{"a later one", []api.Script{good, good, second, good, none, second}, 2, api.Report{Err: api.ErrScript, At: 1}},
		{"the last one", []api.Script{good, good, good, none}, 3, api.Report{Err: api.ErrArg}},
		{"all", []api.Script{none, second, {}}, 0, api.Report{Err: api.ErrArg}},
	} {
		for _, workers := range []int{1, 2, 64} {
			at, r := first(t, x.l, 10, workers)
			same(t, x.what, at, x.at)
			same(t, x.what, r, x.want)
		}
	}
}

// TestFirstTurns: scripts are played for so many turns; none of them is broken by being left in the middle (27.2).
func TestFirstTurns(t *testing.T) {
	for _, turns := range []int{-1, 0, 1, 2, 3, 10, 1000} {
		at, r := first(t, []api.Script{racing(t), racing(t)}, turns, 2)
		same(t, "the place", at, -1)
		same(t, "the report", r, api.Report{})
	}
}

// TestFirstWrong: the errors of Run, and nothing beside them (27.2).
func TestFirstWrong(t *testing.T) {
	for _, x := range wrongs {
		at, r, err := fleet.First(make([]api.Script, x.scripts), 10, x.workers)
		same(t, "the place", at, 0)
		same(t, "the report", r, api.Report{})
		same(t, "the error", err, x.want)
	}
}

// TestFirstMost: the last of as many scripts as there may be (27.2).
func TestFirstMost(t *testing.T) {
	l := sleepers(api.MaxScripts)
	l[api.MaxScripts-1].Clients = nil
	at, r := first(t, l, 10, 64)
	same(t, "the place", at, api.MaxScripts-1)
	same(t, "the report", r, api.Report{Err: api.ErrArg})
}

// TestWrong: what First looks for has an error, or is broken by the first call of the audit or by another one (27.2).
func TestWrong(t *testing.T) {
	for _, x := range []struct {
		r    api.Report
		want bool
	}{
		{sum(0), false},
		{sum(9), false},
		{api.Report{At: 3, Turns: 4, Quiet: true, Now: 5, Ended: 6, Runs: 7, Had: 8, Sum: 9, Broken: -1, Where: -1}, false},
		{api.Report{Broken: -1, Where: 5}, false},
		{api.Report{Broken: 0, Where: 0}, true},
		{api.Report{Broken: 0, Where: -1}, true},
		{api.Report{Broken: 1, Where: 5, Quiet: true}, true},
		{api.Report{Broken: 8, Where: 5}, true},
		{api.Report{Err: api.ErrArg}, true},
		{api.Report{Err: api.ErrArg, Broken: -1, Where: -1}, true},
		{api.Report{Err: -1, Broken: -1, Where: -1}, true},
		{api.Report{Err: api.ErrArg, Broken: 3, Where: 4}, true},
	} {
		same(t, "wrong", fleet.Wrong(x.r), x.want)
	}
}

// total is what Total tells.
func total(t testing.TB, l []api.Report, want api.Report, errors int) {
	t.Helper()
	r, n := fleet.Total(l)
	same(t, "Total", r, want)
	same(t, "errors", n, errors)
}

// full is a report in which nothing is zero but the error.
func full(n int) api.Report {
	return api.Report{At: n + 1, Turns: n + 2, Quiet: true, Now: int64(n) + 3, Ended: n + 4, Runs: n + 5, Had: n + 6, Sum: uint64(n) + 7, Broken: n + 8, Where: n + 9}
}

// TestTotal: turns, ends, runs and what was had are added up, and nothing else (27.2).
func TestTotal(t *testing.T) {
	total(t, nil, api.Report{}, 0)
	total(t, []api.Report{}, api.Report{}, 0)
	total(t, []api.Report{full(1)}[:0], api.Report{}, 0)
	total(t, []api.Report{{}}, api.Report{}, 0)
	total(t, []api.Report{sum(5)}, api.Report{}, 0)
	total(t, []api.Report{full(10)}, api.Report{Turns: 12, Ended: 14, Runs: 15, Had: 16}, 0)
	total(t, []api.Report{full(10), full(200), full(3000)}, api.Report{Turns: 3216, Ended: 3222, Runs: 3225, Had: 3228}, 0)
	for _, x := range []struct{ r, want api.Report }{
		{api.Report{Turns: 3}, api.Report{Turns: 6}},
		{api.Report{Ended: 3}, api.Report{Ended: 6}},
		{api.Report{Runs: 3}, api.Report{Runs: 6}},
		{api.Report{Had: 3}, api.Report{Had: 6}},
		{api.Report{Turns: -3, Ended: -4, Runs: -5, Had: -6}, api.Report{Turns: -6, Ended: -8, Runs: -10, Had: -12}},
		{api.Report{Turns: math.MaxInt}, api.Report{Turns: -2}},
	} {
		total(t, []api.Report{x.r, x.r}, x.want, 0)
	}
}

// TestTotalErrors: reports with an error count, but add nothing, wherever they stand (27.2).
func TestTotalErrors(t *testing.T) {
	wrong := full(1000)
	wrong.Err = api.ErrArg
	other := full(2000)
	other.Err = -5
	sumOf := api.Report{Turns: 3, Ended: 5, Runs: 6, Had: 7}
	total(t, []api.Report{wrong}, api.Report{}, 1)
	total(t, []api.Report{wrong, other, wrong}, api.Report{}, 3)
	total(t, []api.Report{wrong, full(1)}, sumOf, 1)
	total(t, []api.Report{full(1), wrong}, sumOf, 1)
	total(t, []api.Report{wrong, other, full(1), wrong, {}, other}, sumOf, 4)
}

// TestTogether: what is told of the reports of scripts, of which some may not be (27.1, 27.2).
func TestTogether(t *testing.T) {
	shares := script(t, plainly, "0:a add 7", "call 0:a", "call 0:a")
	sleeps := script(t, plainly, "", "sleep 5", "")
	reports := run(t, []api.Script{shares, {}, sleeps, shares, {Config: plainly}, sleeps}, 1000, 3)
	same(t, "Unlike", fleet.Unlike(reports), 2)
	total(t, reports, api.Report{Turns: 12, Ended: 8, Runs: 2, Had: 4}, 2)
}
