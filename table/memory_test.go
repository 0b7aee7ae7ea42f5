package table_test

import (
	"slices"
	"testing"

	"convoy/api"
	"convoy/table"
)

// spoil overwrites a list, and what lies in the room behind its end.
func spoil[T any](l []T, with T) {
	l = l[:cap(l)]
	for i := range l {
		l[i] = with
	}
}

// What lists are spoilt with.
var (
	badRun  = api.Run{Run: 99, Key: api.Key{Space: 99, Name: "spoilt"}, Generation: 99, Refresh: true}
	badTold = api.Told{Caller: 99, Outcome: failure(api.FailLoad, 99, 99)}
)

// usual makes a table with a current run, a refresh, a run that was forgotten and one that was left.
func usual(t *testing.T) *table.Table {
	t.Helper()
	x := of(t, 5)
	begin(t, x, 1, a, 5)
	join(t, x, 1, 6)
	forget(t, x, a, 1, 1)
	begin(t, x, 2, a, 5)
	join(t, x, 2, 6, 7)
	renew(t, x, 3, b)
	begin(t, x, 4, c, 5)
	leave(t, x, 4, both, 5)
	return x
}

// usually is the state of that table.
func usually() state {
	return on(4, asked(1, a, 0, 5, 6).past(), asked(2, a, 1, 5, 6, 7), renewed(3, b, 0), asked(4, c, 0).left()).gen(a, 1).gen(c, 1)
}

// TestListsAreNewMemory: what Waiters, Progress and Currents tell shares nothing with what is kept, nor with another answer (R4).
func TestListsAreNewMemory(t *testing.T) {
	x := usual(t)
	for range 2 {
		waiters, progress, currents := x.Waiters(2), x.Progress(), x.Currents()
		spoil(x.Waiters(2), 99)
		spoil(x.Progress(), 99)
		spoil(x.Currents(), badRun)
		if !slices.Equal(waiters, []int{5, 6, 7}) || !slices.Equal(progress, []int{1, 2, 3, 4}) || !slices.Equal(currents, usually().currents()) {
			t.Fatalf("spoilt with another answer: %v, %v, %v", waiters, progress, currents)
		}
		same(t, x, usually())
	}
	waiters, progress, currents := x.Waiters(2), x.Progress(), x.Currents()
	leave(t, x, 2, still, 5)
	end(t, x, 1, value(1), false, 5, 6)
	forget(t, x, b, 1, 3)
	begin(t, x, 5, b, 9)
	if !slices.Equal(waiters, []int{5, 6, 7}) || !slices.Equal(progress, []int{1, 2, 3, 4}) || !slices.Equal(currents, usually().currents()) {
		t.Fatalf("an answer changed later: %v, %v, %v", waiters, progress, currents)
	}
}

// TestToldIsNewMemory: what End tells shares nothing with what is kept, nor with what another one tells (R4).
func TestToldIsNewMemory(t *testing.T) {
	x := usual(t)
	twin := x.Clone()
	first, _, _ := x.End(2, value(3))
	second, _, _ := twin.End(2, value(4))
	third, _, _ := x.End(1, value(5))
	spoil(first, badTold)
	if !slices.Equal(second, told(value(4), 5, 6, 7)) || !slices.Equal(third, told(value(5), 5, 6)) {
		t.Fatalf("spoilt with another answer: %v, %v", second, third)
	}
	spoil(second, badTold)
	spoil(third, badTold)
	then := usually()
	same(t, x, state{begun: 4, runs: then.runs[2:], generations: then.generations})
	same(t, twin, state{begun: 4, runs: []one{then.runs[0], then.runs[2], then.runs[3]}, generations: then.generations})
}

// TestApart: two tables know nothing of one another, though their runs have the same numbers (R5).
func TestApart(t *testing.T) {
	x, y := usual(t), usual(t)
	leave(t, x, 2, still, 5)
	forget(t, y, b, 1, 3)
	end(t, y, 4, value(1), false)
	then := usually()
	then.runs[1] = asked(2, a, 1, 6, 7)
	same(t, x, then)
	then = usually().gen(b, 1)
	then.runs = []one{then.runs[0], then.runs[1], then.runs[2].past()}
	same(t, y, then)
}

// change is what can be done to a usual table, and what it is then.
type change struct {
	name string
	do   func(x *table.Table)
	then state
}

// with is the usual state, with one run in the place of another one.
func with(place int, o one) state {
	s := usually()
	s.runs[place] = o
	return s
}

// without is the usual state without a run.
func without(place int) state {
	s := usually()
	s.runs = slices.Delete(s.runs, place, place+1)
	return s
}

// begun5 is the usual state with one more run.
func begun5(o one) state {
	s := usually()
	s.begun, s.runs = 5, append(s.runs, o)
	return s
}

// changes is what can be done to a usual table.
func changes(t *testing.T) []change {
	return []change{
		{"nothing", func(x *table.Table) {}, usually()},
		{"Begin", func(x *table.Table) { begin(t, x, 5, empty, 8) }, begun5(asked(5, empty, 0, 8))},
		{"Begin of what was left", func(x *table.Table) { renew(t, x, 5, c) }, begun5(renewed(5, c, 1))},
		{"Join", func(x *table.Table) { join(t, x, 2, 8) }, with(1, asked(2, a, 1, 5, 6, 7, 8))},
		{"Join of a refresh", func(x *table.Table) { join(t, x, 3, 8) }, with(2, renewed(3, b, 0, 8))},
		{"Leave", func(x *table.Table) { leave(t, x, 1, still, 5) }, with(0, asked(1, a, 0, 6).past())},
		{"Leave of all", func(x *table.Table) { leave(t, x, 2, still, 6, 5); leave(t, x, 2, both, 7) }, with(1, asked(2, a, 1).left()).gen(a, 2)},
		{"Leave of all who were forgotten", func(x *table.Table) { leave(t, x, 1, still, 6); leave(t, x, 1, cancelled, 5) }, with(0, asked(1, a, 0).left())},
		{"Release", func(x *table.Table) { release(t, x, 3, both) }, with(2, renewed(3, b, 0).left()).gen(b, 1)},
		{"Forget", func(x *table.Table) { forget(t, x, a, 2, 2) }, with(1, asked(2, a, 1, 5, 6, 7).past()).gen(a, 2)},
		{"Forget of another key", func(x *table.Table) { forget(t, x, empty, 1, 0) }, usually().gen(empty, 1)},
		{"End", func(x *table.Table) { end(t, x, 2, value(1), true, 5, 6, 7) }, without(1)},
		{"End of a refresh", func(x *table.Table) { end(t, x, 3, value(1), true) }, without(2)},
		{"End of what was left", func(x *table.Table) { end(t, x, 4, value(1), false) }, without(3)},
	}
}

// TestClone: the clone is the same, and neither of the two sees what is done with the other, however far each has gone (12.4).
func TestClone(t *testing.T) {
	for _, first := range changes(t) {
		for _, second := range changes(t) {
			x := usual(t)
			twin := x.Clone()
			if twin == x {
				t.Fatal("the clone is the table itself")
			}
			same(t, twin, usually())
			first.do(x)
			same(t, twin, usually())
			second.do(twin)
			same(t, x, first.then)
			same(t, twin, second.then)
			third := x.Clone()
			same(t, third, first.then)
			for _, run := range third.Progress() {
				third.Join(run, 17)
				third.End(run, value(1))
			}
			for _, k := range keys {
				third.Forget(k)
				third.Begin(k, 5, false)
			}
			same(t, x, first.then)
		}
	}
}

// TestCloneHasTheFlight: as many may be in progress in the clone as in the table, each for itself (12.4).
func TestCloneHasTheFlight(t *testing.T) {
	for _, flight := range []int{1, 2} {
		x := of(t, flight)
		same(t, x.Clone(), on(0))
		begin(t, x, 1, a, 5)
		twin := x.Clone()
		for _, each := range []*table.Table{x, twin} {
			for run := 2; run <= flight; run++ {
				begin(t, each, run, b, 5)
			}
			noBegin(t, each, api.ErrBusy, c, false, 5)
			end(t, each, 1, value(1), true, 5)
			begin(t, each, flight+1, c, 5)
			noBegin(t, each, api.ErrBusy, a, false, 5)
		}
	}
}

// TestCloneOfNone: one without runs and generations has a clone of its own, too (12.4).
func TestCloneOfNone(t *testing.T) {
	x := of(t, 1)
	twin := x.Clone()
	forget(t, x, a, 1, 0)
	begin(t, x, 1, a, 5)
	same(t, twin, on(0))
	forget(t, twin, b, 1, 0)
	renew(t, twin, 1, b)
	same(t, x, on(1, asked(1, a, 1, 5)).gen(a, 1))
	same(t, twin, on(1, renewed(1, b, 1)).gen(b, 1))
}

// TestNil: every call on a nil Table, ahead of all else (12.5).
func TestNil(t *testing.T) {
	var x *table.Table
	for range 2 {
		same(t, x, on(0))
		for _, k := range slices.Concat(keys, noKeys) {
			noBegin(t, x, api.ErrArg, k, false, 5, 1, 0, -1)
			noBegin(t, x, api.ErrArg, k, true, 5, 1, 0, -1)
			noForget(t, x, api.ErrArg, k)
		}
		for _, run := range append(noRuns, 1, 2) {
			noneOf(t, x, run)
		}
		if twin := x.Clone(); twin != nil {
			t.Fatalf("Clone: %v", twin)
		}
	}
}

// TestZero: a table that no call gave does no harm, and has room for no run (R1).
func TestZero(t *testing.T) {
	for _, x := range []*table.Table{new(table.Table), new(table.Table).Clone()} {
		noBegin(t, x, api.ErrBusy, a, false, 5)
		noBegin(t, x, api.ErrBusy, a, true, 0)
		noneOf(t, x, 1)
		same(t, x, on(0))
		forget(t, x, a, 1, 0)
		same(t, x, on(0).gen(a, 1))
	}
}
