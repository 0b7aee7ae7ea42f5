package load_test

import (
	"fmt"
	"math"
	"slices"
	"strings"
	"testing"

	"convoy/api"
	"convoy/clock"
	"convoy/gate"
	"convoy/load"
	"convoy/recipe"
	"convoy/token"
)

// The calls are those that the chapter lists: a change of one does not compile.
var (
	_ func(int, []api.Item) (*load.Load, int, api.Errno)                                 = load.New
	_ func(*load.Load, *gate.Gates, *clock.Clock, *token.Tokens) (api.Loaded, api.Errno) = (*load.Load).Step
	_ func(*load.Load) api.Errno                                                         = (*load.Load).Wake
	_ func(*load.Load) (int, int64, bool)                                                = (*load.Load).Waits
	_ func(*load.Load) int                                                               = (*load.Load).Timer
	_ func(*load.Load) int                                                               = (*load.Load).At
	_ func(*load.Load) int                                                               = (*load.Load).Number
	_ func(*load.Load) []int                                                             = (*load.Load).Runs
	_ func(*load.Load) bool                                                              = (*load.Load).Over
	_ func(*load.Load) []api.Result                                                      = (*load.Load).Results
	_ func(*load.Load) *load.Load                                                        = (*load.Load).Clone
)

const (
	most    = 1024    // items of a load
	steps   = 256     // steps of a recipe
	longest = 1 << 62 // the last tick, and the longest sleep
)

// around is the gates, the clock and the tokens with which a load goes on.
type around struct {
	g *gate.Gates
	c *clock.Clock
	t *token.Tokens
}

// fresh makes gates that are shut, a clock at 0 and the live tokens 1 to 9.
func fresh() around {
	a := around{gate.New(), clock.New(), token.New()}
	for range 9 {
		a.t.Make(0)
	}
	return a
}

func (a around) clone() around { return around{a.g.Clone(), a.c.Clone(), a.t.Clone()} }

// told is all that can be asked of gates, a clock and tokens, as a text.
func (a around) told() string {
	var open []int
	var waiting [][]int
	for number := range api.MaxGates {
		if a.g.IsOpen(number) {
			open = append(open, number)
		}
		if who := a.g.Waiting(number); len(who) > 0 {
			waiting = append(waiting, append([]int{number}, who...))
		}
	}
	return fmt.Sprint("open ", open, " waiting ", waiting, " now ", a.c.Now(), " armed ", a.c.Armed(), " tokens ", a.t.Len(), a.t.Live())
}

// told is all that can be asked of a load, as a text.
func told(l *load.Load) string {
	wait, on, waits := l.Waits()
	return fmt.Sprint("number ", l.Number(), " at ", l.At(), " waits ", wait, on, waits, " timer ", l.Timer(), " runs ", l.Runs(), " over ", l.Over(), " results ", l.Results())
}

// item makes an item of a recipe's text, its key named by its run.
func item(run int, text string) api.Item {
	l, at, err := recipe.Parse(text)
	if err != api.OK {
		panic(fmt.Sprintf("Parse(%q): %d, %d", text, at, err))
	}
	return api.Item{Run: run, Key: api.Key{Space: uint16(run), Name: fmt.Sprint("k", run)}, Recipe: l}
}

// held makes an item with a token.
func held(run, token int, text string) api.Item {
	made := item(run, text)
	made.Token = token
	return made
}

// of makes a load.
func of(t *testing.T, number int, items ...api.Item) *load.Load {
	t.Helper()
	l, place, err := load.New(number, items)
	if l == nil || place != 0 || err != api.OK {
		t.Fatalf("New(%d, %v): %v, %d, %d", number, items, l, place, err)
	}
	return l
}

// refuse looks that a load can't be made, with a place and an error.
func refuse(t *testing.T, place int, want api.Errno, number int, items ...api.Item) {
	t.Helper()
	if l, at, err := load.New(number, items); l != nil || at != place || err != want {
		t.Fatalf("New(%d, %.300v): %v, %d, %d, not %d, %d", number, items, l, at, err, place, want)
	}
}

// step does a step, and holds what was done against an answer.
func step(t *testing.T, l *load.Load, a around, want api.Loaded) {
	t.Helper()
	if got, err := l.Step(a.g, a.c, a.t); got != want || err != api.OK {
		t.Fatalf("Step: %v, %d, not %v", got, err, want)
	}
}

// stuck looks that a step tells an error, and that nothing is changed by it, neither what is told nor what comes then.
func stuck(t *testing.T, l *load.Load, a around, want api.Errno) {
	t.Helper()
	twin, beside, itself := l.Clone(), a.told(), told(l)
	for range 2 {
		if got, err := l.Step(a.g, a.c, a.t); got != (api.Loaded{}) || err != want {
			t.Fatalf("Step: %v, %d, not %d", got, err, want)
		}
	}
	if got := a.told(); got != beside {
		t.Fatalf("a step with the error %d changed %s to %s", want, beside, got)
	}
	if got := told(l); got != itself {
		t.Fatalf("a step with the error %d changed %s to %s", want, itself, got)
	}
	if got, was := playOut(t, l.Clone(), fresh()), playOut(t, twin, fresh()); !slices.Equal(got, was) {
		t.Fatalf("behind a step with the error %d it goes on by %v, not by %v", want, got, was)
	}
}

// playOut plays a load to its end, woken where it waits, and tells what it did.
func playOut(t *testing.T, l *load.Load, a around) []string {
	t.Helper()
	did := []string{told(l)}
	for !l.Over() {
		l.Wake()
		a.g.Leave(l.Number())
		done, err := l.Step(a.g, a.c, a.t)
		if err != api.OK {
			t.Fatalf("Step of %s: %d", told(l), err)
		}
		did = append(did, fmt.Sprint(done), told(l))
	}
	return did
}

// results looks that a load has ended, with outcomes in the order of its runs.
func results(t *testing.T, l *load.Load, want ...api.Result) {
	t.Helper()
	if got := l.Results(); !slices.Equal(got, want) || !l.Over() || l.At() != len(want) {
		t.Fatalf("Results: %v, over %t, at %d, not %v", got, l.Over(), l.At(), want)
	}
}

// value is the result of a run that answered.
func value(run int, n int64) api.Result {
	return api.Result{Run: run, Outcome: api.Outcome{Value: n}}
}

// failed is the result of a run that ended with a failure of a run, which may be another one.
func failed(run, kind, code, of int) api.Result {
	return api.Result{Run: run, Outcome: api.Outcome{Fail: api.Fail{Kind: kind, Code: code, Run: of}}}
}

// TestExample plays the chapter's example.
func TestExample(t *testing.T) {
	a := fresh()
	l := of(t, 1, item(1, "add 3 answer"), item(2, "fail 7"))
	step(t, l, a, api.Loaded{What: api.LoadStep, Run: 1})
	step(t, l, a, api.Loaded{What: api.LoadRun, Run: 1})
	step(t, l, a, api.Loaded{What: api.LoadEnd, Run: 2})
	results(t, l, value(1, 3), failed(2, api.FailLoad, 7, 2))
	l = of(t, 1, item(1, "add 3 answer"), item(2, "panic 9"))
	step(t, l, a, api.Loaded{What: api.LoadStep, Run: 1})
	step(t, l, a, api.Loaded{What: api.LoadRun, Run: 1})
	step(t, l, a, api.Loaded{What: api.LoadEnd, Run: 2})
	results(t, l, failed(1, api.FailPanic, 9, 2), failed(2, api.FailPanic, 9, 2))
}

// row makes so many items of runs from 1 on that answer their places.
func row(n int) []api.Item {
	var items []api.Item
	for i := range n {
		items = append(items, item(i+1, fmt.Sprint("add ", i)))
	}
	return items
}

// atFirst holds a load that was just made against its number and runs.
func atFirst(t *testing.T, l *load.Load, number int, runs ...int) {
	t.Helper()
	if got := l.Runs(); !slices.Equal(got, runs) || l.Number() != number {
		t.Fatalf("Number: %d, Runs: %v, not %d, %v", l.Number(), got, number, runs)
	}
	wait, on, waits := l.Waits()
	if wait != 0 || on != 0 || waits || l.Timer() != 0 || l.At() != 0 || l.Over() || len(l.Results()) != 0 {
		t.Fatalf("a load at its beginning: %s", told(l))
	}
}

// TestNew: numbers and counts of items that may be, the least and the greatest too (14.1).
func TestNew(t *testing.T) {
	for _, number := range []int{1, 2, 77, math.MaxInt} {
		for _, n := range []int{1, 2, 3, most - 1, most} {
			l := of(t, number, row(n)...)
			runs := make([]int, n)
			for i := range runs {
				runs[i] = i + 1
			}
			atFirst(t, l, number, runs...)
		}
	}
	if most != api.MaxBatch || steps != api.MaxSteps || longest != api.MaxTime {
		t.Fatal("the limits are others")
	}
}

// TestNewEdges: runs with gaps and the greatest, tokens that nobody made, keys as long as may be and alike, and recipes at their ends (14.1).
func TestNewEdges(t *testing.T) {
	long := api.Key{Space: math.MaxUint16, Name: strings.Repeat("x", 64)}
	full := slices.Repeat([]api.Step{{Op: api.StepAdd, A: math.MinInt64}}, steps)
	l := of(t, 3,
		api.Item{Run: 2},
		api.Item{Run: 3, Token: 1, Key: long, Recipe: []api.Step{}},
		api.Item{Run: 70, Token: math.MaxInt, Key: long, Recipe: full},
		item(math.MaxInt-1, "gate 255 sleep 4611686018427387904 skip 3 256 shift -63 turn 63"),
		item(math.MaxInt, "gate 0 sleep 0 skip 0 1 shift 63 turn 0 heed key run answer"))
	atFirst(t, l, 3, 2, 3, 70, math.MaxInt-1, math.MaxInt)
	atFirst(t, of(t, 1, api.Item{Run: math.MaxInt}), 1, math.MaxInt)
}

// TestNewWrong: a number below 1, no items and too many, ahead of all that may be wrong with an item (14.1).
func TestNewWrong(t *testing.T) {
	noNumbers := []int{0, -1, -2, math.MinInt}
	for _, number := range noNumbers {
		for _, n := range []int{0, 1, 2, most, most + 1} {
			refuse(t, 0, api.ErrLoad, number, row(n)...)
		}
	}
	for _, number := range []int{1, 2, math.MaxInt} {
		refuse(t, 0, api.ErrLoad, number)
		refuse(t, 0, api.ErrLoad, number, []api.Item{}...)
		refuse(t, 0, api.ErrLoad, number, row(most+1)...)
		refuse(t, 0, api.ErrLoad, number, row(2*most)...)
	}
	for _, f := range faults() {
		wrong := row(3)
		f.do(&wrong[1])
		for _, number := range noNumbers {
			refuse(t, 0, api.ErrLoad, number, wrong...)
		}
		for _, place := range []int{0, 5, most} {
			wrong = row(most + 1)
			f.do(&wrong[place])
			refuse(t, 0, api.ErrLoad, 1, wrong...)
		}
	}
}

// fault is what may be wrong with an item, by the rank that its error has, and its error.
type fault struct {
	name string
	rank int
	do   func(*api.Item)
	want api.Errno
}

// steppy makes a fault of a recipe.
func steppy(name string, want api.Errno, l []api.Step) fault {
	return fault{name, 4, func(i *api.Item) { i.Recipe = l }, want}
}

// faults is what may be wrong with an item, wherever it stands; its run is one behind the one ahead, if it is right.
func faults() []fault {
	named := func(n int) func(*api.Item) {
		return func(i *api.Item) { i.Key.Name = strings.Repeat("x", n) }
	}
	good := slices.Repeat([]api.Step{{Op: api.StepAdd, A: 1}}, steps)
	return []fault{
		{"the run 0", 1, func(i *api.Item) { i.Run = 0 }, api.ErrLoad},
		{"the run -1", 1, func(i *api.Item) { i.Run = -1 }, api.ErrLoad},
		{"the least run", 1, func(i *api.Item) { i.Run = math.MinInt }, api.ErrLoad},
		{"the run ahead, or 0", 1, func(i *api.Item) { i.Run-- }, api.ErrLoad},
		{"one below the run ahead, or -1", 1, func(i *api.Item) { i.Run -= 2 }, api.ErrLoad},
		{"the token -1", 2, func(i *api.Item) { i.Token = -1 }, api.ErrLoad},
		{"the least token", 2, func(i *api.Item) { i.Token = math.MinInt }, api.ErrLoad},
		{"a key that is too long", 3, named(65), api.ErrKey},
		{"a key that is far too long", 3, named(1000), api.ErrKey},
		steppy("too many steps", api.ErrMany, append(slices.Clone(good), api.Step{Op: api.StepAdd})),
		steppy("far too many steps", api.ErrMany, slices.Repeat(good, 3)),
		steppy("no Op", api.ErrStep, []api.Step{{}}),
		steppy("a gate that is none", api.ErrStep, []api.Step{{Op: api.StepAnswer}, {Op: api.StepGate, A: 256}}),
		steppy("a sleep that is too long", api.ErrStep, []api.Step{{Op: api.StepSleep, A: longest + 1}}),
		steppy("a sleep below 0", api.ErrStep, []api.Step{{Op: api.StepSleep, A: -1}}),
		steppy("a wrong step at the end of a full recipe", api.ErrStep, append(slices.Clone(good[1:]), api.Step{Op: 13})),
		// What recipe.Check says of both: chapter 8 names ErrMany first.
		steppy("too many steps, and a wrong one", api.ErrMany, append(slices.Clone(good), api.Step{Op: 13})),
	}
}

// TestNewWrongItem: each fault alone, at each place of lists of a few, and at the last one of a full one (14.1).
func TestNewWrongItem(t *testing.T) {
	for _, f := range faults() {
		for _, n := range []int{1, 2, 3, 5, most} {
			for place := range min(n, 5) {
				wrong := row(n)
				f.do(&wrong[n-1-place])
				refuse(t, n-1-place, f.want, 1, wrong...)
			}
		}
	}
}

// TestNewWrongRun: the run of the one ahead counts, whether it is by one or by many that it is not above it (14.1).
func TestNewWrongRun(t *testing.T) {
	for _, c := range []struct {
		runs  []int
		place int
	}{
		{[]int{5, 5}, 1}, {[]int{5, 4}, 1}, {[]int{5, 1, 9}, 1}, {[]int{5, 6, 6, 7}, 2}, {[]int{5, 6, 5}, 2}, {[]int{5, 9, 7, 8}, 2},
		{[]int{math.MaxInt, math.MaxInt}, 1}, {[]int{math.MaxInt, 1}, 1}, {[]int{1, 0}, 1}, {[]int{1, -1}, 1}, {[]int{0, 1}, 0}, {[]int{-5, -4, 3}, 0},
	} {
		var items []api.Item
		for _, run := range c.runs {
			items = append(items, api.Item{Run: run})
		}
		refuse(t, c.place, api.ErrLoad, 1, items...)
	}
}

// TestNewOrder: of several faults in one item the error that the chapter names first (14.1).
func TestNewOrder(t *testing.T) {
	all := faults()
	for i, x := range all {
		for _, y := range all[i+1:] {
			if x.rank == y.rank {
				continue
			}
			for place := range 3 {
				wrong := row(3)
				y.do(&wrong[place])
				x.do(&wrong[place])
				refuse(t, place, x.want, 1, wrong...)
			}
		}
	}
	for place := range 3 {
		for from := range all {
			wrong := row(3)
			for _, f := range slices.Backward(all[from:]) {
				f.do(&wrong[place])
			}
			refuse(t, place, all[from].want, 1, wrong...)
		}
	}
}

// TestNewFirst: of several wrong items the first one's place and error, whatever is wrong with those behind it (14.1).
func TestNewFirst(t *testing.T) {
	for _, x := range faults() {
		for _, y := range faults() {
			wrong := row(5)
			x.do(&wrong[1])
			y.do(&wrong[3])
			refuse(t, 1, x.want, 1, wrong...)
			x.do(&wrong[0])
			refuse(t, 0, x.want, 1, wrong...)
		}
	}
}

// TestNewApart: two loads know nothing of one another (R5).
func TestNewApart(t *testing.T) {
	a, items := fresh(), []api.Item{item(1, "add 1 gate 3 add 1"), item(2, "sleep 4")}
	x, y := of(t, 1, items...), of(t, 2, items...)
	step(t, x, a, api.Loaded{What: api.LoadStep, Run: 1})
	step(t, x, a, api.Loaded{What: api.LoadGate, Run: 1, On: 3})
	atFirst(t, y, 2, 1, 2)
	step(t, y, a, api.Loaded{What: api.LoadStep, Run: 1})
	step(t, y, a, api.Loaded{What: api.LoadGate, Run: 1, On: 3})
	if got := a.g.Waiting(3); !slices.Equal(got, []int{1, 2}) {
		t.Fatalf("Waiting: %v", got)
	}
}
