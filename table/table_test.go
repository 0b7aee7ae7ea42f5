package table_test

import (
	"cmp"
	"maps"
	"math"
	"slices"
	"strings"
	"testing"

	"convoy/api"
	"convoy/table"
)

// The calls are those that the chapter lists: a change of one does not compile.
var (
	_ func(int) (*table.Table, api.Errno)                                = table.New
	_ func(*table.Table, api.Key, int, bool) (int, api.Errno)            = (*table.Table).Begin
	_ func(*table.Table, int, int) api.Errno                             = (*table.Table).Join
	_ func(*table.Table, int, int) (api.Gone, api.Errno)                 = (*table.Table).Leave
	_ func(*table.Table, int) (api.Gone, api.Errno)                      = (*table.Table).Release
	_ func(*table.Table, api.Key) (int, int, api.Errno)                  = (*table.Table).Forget
	_ func(*table.Table, int, api.Outcome) ([]api.Told, bool, api.Errno) = (*table.Table).End
	_ func(*table.Table, api.Key) (int, bool)                            = (*table.Table).Current
	_ func(*table.Table, api.Key) int                                    = (*table.Table).Generation
	_ func(*table.Table, int) (api.Run, bool)                            = (*table.Table).Run
	_ func(*table.Table, int) []int                                      = (*table.Table).Waiters
	_ func(*table.Table, int) bool                                       = (*table.Table).Cancelled
	_ func(*table.Table, int) bool                                       = (*table.Table).IsCurrent
	_ func(*table.Table) []int                                           = (*table.Table).Progress
	_ func(*table.Table) []api.Run                                       = (*table.Table).Currents
	_ func(*table.Table) int                                             = (*table.Table).Begun
	_ func(*table.Table) *table.Table                                    = (*table.Table).Clone
)

// Keys that differ in one thing alone from another one, where they can.
var (
	a     = api.Key{Name: "a"}
	b     = api.Key{Name: "b"}
	c     = api.Key{Space: 1, Name: "a"}
	empty = api.Key{}
	long  = api.Key{Name: strings.Repeat("n", api.MaxName)}
	last  = api.Key{Space: math.MaxUint16, Name: strings.Repeat("\xff", api.MaxName)}
)

// keys is all of them, in their order.
var keys = []api.Key{empty, a, b, long, c, last}

// noKeys is keys that may not be.
var noKeys = []api.Key{
	{Name: strings.Repeat("n", api.MaxName+1)},
	{Space: math.MaxUint16, Name: strings.Repeat("n", 1000)},
}

// noRuns is numbers that no run of a test has.
var noRuns = []int{0, -1, -2, math.MinInt, math.MinInt + 1, 1 << 20, 1<<32 + 1, math.MaxInt}

// one is all that can be asked of a run in progress.
type one struct {
	run       api.Run
	waiters   []int
	cancelled bool
	current   bool
}

// asked is a current run that callers ask for.
func asked(run int, k api.Key, generation int, callers ...int) one {
	return one{run: api.Run{Run: run, Key: k, Generation: generation}, waiters: callers, current: true}
}

// renewed is a current refresh.
func renewed(run int, k api.Key, generation int, callers ...int) one {
	o := asked(run, k, generation, callers...)
	o.run.Refresh = true
	return o
}

// past is the same run, whose key went on.
func (o one) past() one {
	o.current = false
	return o
}

// left is the same run, in which nobody is interested any more.
func (o one) left() one {
	o.current, o.cancelled, o.waiters = false, true, nil
	return o
}

// state is all that can be asked of a table: the runs in progress, rising.
type state struct {
	begun       int
	runs        []one
	generations map[api.Key]int
}

// on is the state of a table in which so many runs were begun, and no generation went on.
func on(begun int, runs ...one) state { return state{begun: begun, runs: runs} }

// gen is the same state, with a key's generation.
func (s state) gen(k api.Key, generation int) state {
	generations := map[api.Key]int{}
	maps.Copy(generations, s.generations)
	generations[k] = generation
	s.generations = generations
	return s
}

// currents is the current runs of a state, in the order of their keys: by spaces, then by names.
func (s state) currents() []api.Run {
	var l []api.Run
	for _, o := range s.runs {
		if o.current {
			l = append(l, o.run)
		}
	}
	slices.SortFunc(l, func(x, y api.Run) int {
		return cmp.Or(cmp.Compare(x.Key.Space, y.Key.Space), cmp.Compare(x.Key.Name, y.Key.Name))
	})
	return l
}

// sameRun holds all that can be asked of a run in progress against what it should be.
func sameRun(t *testing.T, x *table.Table, want one) {
	t.Helper()
	run := want.run.Run
	if got, ok := x.Run(run); got != want.run || !ok {
		t.Fatalf("Run(%d): %+v, %t, not %+v", run, got, ok, want.run)
	}
	if got := x.Waiters(run); !slices.Equal(got, want.waiters) {
		t.Fatalf("Waiters(%d): %v, not %v", run, got, want.waiters)
	}
	if x.Cancelled(run) != want.cancelled || x.IsCurrent(run) != want.current {
		t.Fatalf("Cancelled, IsCurrent(%d): %t, %t, not %t, %t", run, x.Cancelled(run), x.IsCurrent(run), want.cancelled, want.current)
	}
}

// noRun looks that nothing is told of a number that no run in progress has.
func noRun(t *testing.T, x *table.Table, run int) {
	t.Helper()
	if got, ok := x.Run(run); got != (api.Run{}) || ok {
		t.Fatalf("Run(%d): %+v, %t", run, got, ok)
	}
	if got := x.Waiters(run); len(got) != 0 {
		t.Fatalf("Waiters(%d): %v", run, got)
	}
	if x.Cancelled(run) || x.IsCurrent(run) {
		t.Fatalf("Cancelled, IsCurrent(%d): %t, %t", run, x.Cancelled(run), x.IsCurrent(run))
	}
}

// sameKey holds what can be asked of a key against what it should be.
func sameKey(t *testing.T, x *table.Table, k api.Key, want state) {
	t.Helper()
	current := 0
	for _, o := range want.runs {
		if o.current && o.run.Key == k {
			current = o.run.Run
		}
	}
	if got, ok := x.Current(k); got != current || ok != (current != 0) {
		t.Fatalf("Current(%v): %d, %t, not %d", k, got, ok, current)
	}
	if got := x.Generation(k); got != want.generations[k] {
		t.Fatalf("Generation(%v): %d, not %d", k, got, want.generations[k])
	}
}

// same holds all that can be asked of a table against what it should be.
func same(t *testing.T, x *table.Table, want state) {
	t.Helper()
	if got := x.Begun(); got != want.begun {
		t.Fatalf("Begun: %d, not %d", got, want.begun)
	}
	var runs []int
	for _, o := range want.runs {
		runs = append(runs, o.run.Run)
		sameRun(t, x, o)
	}
	if got := x.Progress(); !slices.Equal(got, runs) {
		t.Fatalf("Progress: %v, not %v", got, runs)
	}
	if got := x.Currents(); !slices.Equal(got, want.currents()) {
		t.Fatalf("Currents: %v, not %v", got, want.currents())
	}
	for run := 1; run < want.begun+3; run++ {
		if !slices.Contains(runs, run) {
			noRun(t, x, run)
		}
	}
	for _, run := range noRuns {
		noRun(t, x, run)
	}
	for _, k := range slices.Concat(keys, noKeys) {
		sameKey(t, x, k, want)
	}
}

// of makes a table.
func of(t *testing.T, flight int) *table.Table {
	t.Helper()
	x, err := table.New(flight)
	if x == nil || err != api.OK {
		t.Fatalf("New(%d): %v, %d", flight, x, err)
	}
	return x
}

// begin begins a run for a caller, and holds its number against what it should be.
func begin(t *testing.T, x *table.Table, want int, k api.Key, caller int) {
	t.Helper()
	if run, err := x.Begin(k, caller, false); run != want || err != api.OK {
		t.Fatalf("Begin(%v, %d): %d, %d, not %d", k, caller, run, err, want)
	}
}

// renew begins a refresh, and holds its number against what it should be.
func renew(t *testing.T, x *table.Table, want int, k api.Key) {
	t.Helper()
	if run, err := x.Begin(k, 0, true); run != want || err != api.OK {
		t.Fatalf("Begin(%v) of a refresh: %d, %d, not %d", k, run, err, want)
	}
}

// noBegin looks that a run can not begin, with an error.
func noBegin(t *testing.T, x *table.Table, want api.Errno, k api.Key, refresh bool, callers ...int) {
	t.Helper()
	for _, caller := range callers {
		if run, err := x.Begin(k, caller, refresh); run != 0 || err != want {
			t.Fatalf("Begin(%v, %d, %t): %d, %d, not %d", k, caller, refresh, run, err, want)
		}
	}
}

// TestNumbers: the errors have the numbers that the chapter lists.
func TestNumbers(t *testing.T) {
	got := []api.Errno{api.ErrBusy, api.ErrCurrent, api.ErrRun}
	if !slices.Equal(got, []api.Errno{120, 121, 122}) {
		t.Errorf("the errors: %v", got)
	}
}

// TestNew: a table without runs, from 1 to MaxFlight, and none past these (12.1).
func TestNew(t *testing.T) {
	for _, flight := range []int{1, 2, 100, api.MaxFlight - 1, api.MaxFlight} {
		same(t, of(t, flight), on(0))
	}
	for _, flight := range []int{0, -1, math.MinInt, api.MaxFlight + 1, 1<<32 + 1, math.MaxInt} {
		if x, err := table.New(flight); x != nil || err != api.ErrArg {
			t.Errorf("New(%d): %v, %d", flight, x, err)
		}
	}
}

// TestBegin: runs have their numbers in the order in which they begin, whatever their keys and callers are (12.1, 12.4).
func TestBegin(t *testing.T) {
	x := of(t, 10)
	begin(t, x, 1, last, 5)
	same(t, x, on(1, asked(1, last, 0, 5)))
	renew(t, x, 2, b)
	same(t, x, on(2, asked(1, last, 0, 5), renewed(2, b, 0)))
	begin(t, x, 3, c, 1)
	begin(t, x, 4, a, math.MaxInt)
	begin(t, x, 5, long, 5)
	renew(t, x, 6, empty)
	same(t, x, on(6, asked(1, last, 0, 5), renewed(2, b, 0), asked(3, c, 0, 1), asked(4, a, 0, math.MaxInt), asked(5, long, 0, 5), renewed(6, empty, 0)))
}

// TestCurrentsInOrder: by spaces first, then by the bytes of the names, a shorter one ahead, whatever order they begin in (12.4).
func TestCurrentsInOrder(t *testing.T) {
	order := []api.Key{{}, {Name: "A"}, {Name: "a"}, {Name: "a\x00"}, {Name: "aa"}, {Name: "b"}, {Name: "\xff"}, {Space: 1}, {Space: 2, Name: "b"}, {Space: 10, Name: "a"}, {Space: 300}}
	for _, step := range []int{1, 2, 3, 5, 10} {
		x := of(t, len(order))
		for i := range order {
			begin(t, x, i+1, order[(i*step+step)%len(order)], 5)
		}
		var got []api.Key
		for _, run := range x.Currents() {
			got = append(got, run.Key)
		}
		if !slices.Equal(got, order) {
			t.Errorf("Currents: %v", got)
		}
	}
}

// noCallers is numbers that no caller has.
var noCallers = []int{0, -1, -2, math.MinInt, math.MinInt + 1}

// TestBeginWrong: each wrong argument alone; nothing is changed by it (12.1).
func TestBeginWrong(t *testing.T) {
	x := of(t, 3)
	begin(t, x, 1, a, 5)
	then := on(1, asked(1, a, 0, 5))
	for _, k := range noKeys {
		noBegin(t, x, api.ErrKey, k, false, 5, 1, math.MaxInt)
		noBegin(t, x, api.ErrKey, k, true, 0)
	}
	noBegin(t, x, api.ErrArg, b, false, noCallers...)
	noBegin(t, x, api.ErrArg, b, true, 1, 5, -1, math.MinInt, math.MaxInt)
	noBegin(t, x, api.ErrCurrent, a, false, 5, 6, 1, math.MaxInt)
	noBegin(t, x, api.ErrCurrent, a, true, 0)
	same(t, x, then)
	begin(t, x, 2, b, 5)
	same(t, x, on(2, asked(1, a, 0, 5), asked(2, b, 0, 5)))
}

// TestBeginErrorsInOrder: of several errors the first that the chapter names is told (12.1).
func TestBeginErrorsInOrder(t *testing.T) {
	x := of(t, 1)
	begin(t, x, 1, a, 5)
	for _, k := range noKeys {
		noBegin(t, x, api.ErrKey, k, false, 0, -1, 1, 5)
		noBegin(t, x, api.ErrKey, k, true, 0, -1, 1, 5)
	}
	noBegin(t, x, api.ErrArg, a, false, noCallers...)
	noBegin(t, x, api.ErrArg, a, true, 1, -1, 5)
	noBegin(t, x, api.ErrArg, b, false, noCallers...)
	noBegin(t, x, api.ErrArg, b, true, 1, -1, 5)
	noBegin(t, x, api.ErrCurrent, a, false, 5, 6)
	noBegin(t, x, api.ErrCurrent, a, true, 0)
	noBegin(t, x, api.ErrBusy, b, false, 5, 6)
	noBegin(t, x, api.ErrBusy, b, true, 0)
	same(t, x, on(1, asked(1, a, 0, 5)))
}

// TestFlight: with one fewer a run begins still, with so many none does, until one ends (12.1).
func TestFlight(t *testing.T) {
	for _, flight := range []int{1, 2, 3, api.MaxFlight} {
		x := of(t, flight)
		for i := range flight {
			begin(t, x, i+1, api.Key{Space: uint16(i), Name: "f"}, 5)
		}
		noBegin(t, x, api.ErrBusy, a, false, 5)
		noBegin(t, x, api.ErrBusy, a, true, 0)
		noBegin(t, x, api.ErrCurrent, api.Key{Name: "f"}, false, 5)
		end(t, x, 1, value(3), true, 5)
		renew(t, x, flight+1, a)
		noBegin(t, x, api.ErrBusy, api.Key{Name: "f"}, false, 5)
		if got := len(x.Progress()); got != flight || x.Begun() != flight+1 {
			t.Errorf("in progress: %d, begun: %d, not %d", got, x.Begun(), flight)
		}
	}
}

// TestFlightCountsAll: runs that are current no more are in progress still, and count (12.1).
func TestFlightCountsAll(t *testing.T) {
	x := of(t, 3)
	begin(t, x, 1, a, 5)
	forget(t, x, a, 1, 1)
	begin(t, x, 2, a, 6)
	leave(t, x, 2, both, 6)
	begin(t, x, 3, a, 7)
	noBegin(t, x, api.ErrBusy, b, false, 8)
	forget(t, x, a, 3, 3)
	noBegin(t, x, api.ErrBusy, a, false, 8)
	noBegin(t, x, api.ErrBusy, a, true, 0)
	then := on(3, asked(1, a, 0, 5).past(), asked(2, a, 1).left(), asked(3, a, 2, 7).past()).gen(a, 3)
	same(t, x, then)
	end(t, x, 2, value(1), false)
	begin(t, x, 4, a, 8)
	same(t, x, on(4, then.runs[0], then.runs[2], asked(4, a, 3, 8)).gen(a, 3))
}

// TestBeginAgain: behind an end, a forgetting and an abandoning a key has a run anew, of its present generation (12.1).
func TestBeginAgain(t *testing.T) {
	x := of(t, 9)
	begin(t, x, 1, a, 5)
	end(t, x, 1, value(3), true, 5)
	renew(t, x, 2, a)
	same(t, x, on(2, renewed(2, a, 0)))
	forget(t, x, a, 1, 2)
	begin(t, x, 3, a, 5)
	leave(t, x, 3, both, 5)
	renew(t, x, 4, a)
	release(t, x, 4, both)
	begin(t, x, 5, a, 5)
	begin(t, x, 6, c, 5)
	same(t, x, on(6, renewed(2, a, 0).past(), asked(3, a, 1).left(), renewed(4, a, 2).left(), asked(5, a, 3, 5), asked(6, c, 0, 5)).gen(a, 3))
	noBegin(t, x, api.ErrCurrent, a, false, 7)
	noBegin(t, x, api.ErrCurrent, c, true, 0)
}
