package recipe_test

import (
	"math"
	"slices"
	"testing"

	"convoy/api"
	"convoy/recipe"
)

// The calls are those that the chapter lists: a change of one does not compile.
var (
	_ func([]api.Step) (int, api.Errno)                                               = recipe.Check
	_ func([]api.Step, api.Cook, api.Around) (api.Cook, api.Outcome, bool, api.Errno) = recipe.Do
	_ func([]api.Step, api.Cook, api.Around) (api.Cook, api.Outcome, bool, api.Errno) = recipe.On
	_ func([]api.Step, api.Around) (api.Outcome, int64, api.Errno)                    = recipe.Alone
	_ func([]api.Step) (string, int, api.Errno)                                       = recipe.Text
	_ func(string) ([]api.Step, int, api.Errno)                                       = recipe.Parse
	_ func([]api.Step) []int                                                          = recipe.Gates
	_ func([]api.Step) (int64, bool)                                                  = recipe.Longest
)

// least and greatest are the least and the greatest number.
const least, greatest = math.MinInt64, math.MaxInt64

// maxTime is the greatest tick, most how many steps a recipe has at most.
const maxTime, most = int64(1) << 62, 256

// form is a row of the chapter's table: an Op, its word, and which A and B may be.
type form struct {
	op            int
	word          string
	named         int
	leastA, mostA int64
	leastB, mostB int64
}

// forms is the chapter's table, written out a second time.
var forms = []form{
	{op: 1, word: "add", named: 1, leastA: least, mostA: greatest},
	{op: 2, word: "shift", named: 1, leastA: -63, mostA: 63},
	{op: 3, word: "key"},
	{op: 4, word: "run"},
	{op: 5, word: "turn", named: 1, leastA: 0, mostA: 63},
	{op: 6, word: "gate", named: 1, leastA: 0, mostA: 255},
	{op: 7, word: "sleep", named: 1, leastA: 0, mostA: maxTime},
	{op: 8, word: "heed"},
	{op: 9, word: "skip", named: 2, leastA: 0, mostA: 3, leastB: 1, mostB: most},
	{op: 10, word: "answer"},
	{op: 11, word: "fail", named: 1, leastA: least, mostA: greatest},
	{op: 12, word: "panic", named: 1, leastA: least, mostA: greatest},
}

// good is, of each form, the steps at the least and the greatest A and B that may be.
func good() []api.Step {
	var l []api.Step
	for _, f := range forms {
		for _, a := range []int64{f.leastA, f.mostA} {
			for _, b := range []int64{f.leastB, f.mostB} {
				l = append(l, api.Step{Op: f.op, A: a, B: b})
			}
		}
	}
	return l
}

// bad is steps that may not be: just outside of what may be, far outside of it, and of an Op that is none.
func bad() []api.Step {
	var l []api.Step
	for _, f := range forms {
		for _, a := range outside(f.leastA, f.mostA) {
			l = append(l, api.Step{Op: f.op, A: a, B: f.leastB}, api.Step{Op: f.op, A: a, B: f.mostB})
		}
		for _, b := range outside(f.leastB, f.mostB) {
			l = append(l, api.Step{Op: f.op, A: f.leastA, B: b}, api.Step{Op: f.op, A: f.mostA, B: b})
		}
	}
	for _, op := range []int{0, -1, -12, 13, 14, 255, math.MinInt, math.MaxInt, 1 << 32, 1<<32 + 1} {
		l = append(l, api.Step{Op: op}, api.Step{Op: op, A: 1}, api.Step{Op: op, A: 1, B: 1})
	}
	return l
}

// outside is numbers that are not from a to b.
func outside(a, b int64) []int64 {
	var l []int64
	if a > least {
		l = append(l, a-1, least)
	}
	if b < greatest {
		l = append(l, b+1, greatest)
	}
	return l
}

// adds is n steps that may be.
func adds(n int) []api.Step {
	var l []api.Step
	for i := range n {
		l = append(l, api.Step{Op: api.StepAdd, A: int64(i)})
	}
	return l
}

// check holds the answer of Check against a place and an error.
func check(t *testing.T, l []api.Step, wantAt int, want api.Errno) {
	t.Helper()
	if at, err := recipe.Check(l); at != wantAt || err != want {
		t.Fatalf("Check(%v): %d, %d, not %d, %d", l, at, err, wantAt, want)
	}
}

// TestNumbers: the constants are those that the chapter tells.
func TestNumbers(t *testing.T) {
	ops := []int{
		api.StepAdd, api.StepShift, api.StepKey, api.StepRun, api.StepTurn, api.StepGate,
		api.StepSleep, api.StepHeed, api.StepSkip, api.StepAnswer, api.StepFail, api.StepPanic,
	}
	for i, op := range ops {
		if op != forms[i].op || op != i+1 {
			t.Errorf("the Op of %s is %d", forms[i].word, op)
		}
	}
	if api.WaitNone != 0 || api.WaitGate != 1 || api.WaitSleep != 2 || api.ErrStep != 80 || api.MaxSteps != most || api.MaxTime != maxTime {
		t.Error("a number is another one")
	}
}

// TestCheckEach: a step may be with the least and the greatest numbers of its Op, and not outside of them (8.1).
func TestCheckEach(t *testing.T) {
	for _, step := range good() {
		check(t, []api.Step{step}, 0, api.OK)
	}
	for _, step := range bad() {
		check(t, []api.Step{step}, 0, api.ErrStep)
	}
	for _, f := range forms {
		for a := f.leastA; f.mostA < 1000 && a <= f.mostA; a++ {
			for b := f.leastB; b <= f.mostB; b++ {
				check(t, []api.Step{{Op: f.op, A: a, B: b}}, 0, api.OK)
			}
		}
	}
}

// TestCheckPlace: the place is that of the first step that may not be (8.1).
func TestCheckPlace(t *testing.T) {
	check(t, nil, 0, api.OK)
	check(t, []api.Step{}, 0, api.OK)
	for _, n := range []int{1, 2, 255, most} {
		check(t, adds(n), 0, api.OK)
		for _, at := range []int{0, n / 2, n - 1} {
			l := adds(n)
			l[at] = api.Step{Op: api.StepGate, A: 256}
			check(t, l, at, api.ErrStep)
			l[n-1] = api.Step{Op: 77}
			check(t, l, at, api.ErrStep)
		}
	}
}

// TestCheckMany: that there are too many is told ahead of a step that may not be (8.1).
func TestCheckMany(t *testing.T) {
	for _, n := range []int{most + 1, most + 2, 2 * most, 65536} {
		l := adds(n)
		check(t, l, most, api.ErrMany)
		l[0] = api.Step{}
		check(t, l, most, api.ErrMany)
		check(t, make([]api.Step, n), most, api.ErrMany)
	}
}

// gates holds the answer of Gates against a list.
func gates(t *testing.T, l []api.Step, want ...int) {
	t.Helper()
	if got := recipe.Gates(l); !slices.Equal(got, want) {
		t.Fatalf("Gates(%v): %v, not %v", l, got, want)
	}
}

// gatesOf is a StepGate of each number.
func gatesOf(numbers ...int64) []api.Step {
	var l []api.Step
	for _, n := range numbers {
		l = append(l, api.Step{Op: api.StepGate, A: n})
	}
	return l
}

// TestGates: each gate is told once, rising, of any steps (8.5).
func TestGates(t *testing.T) {
	gates(t, nil)
	gates(t, []api.Step{})
	gates(t, adds(most))
	gates(t, gatesOf(0), 0)
	gates(t, gatesOf(255), 255)
	gates(t, gatesOf(7, 7, 7), 7)
	gates(t, gatesOf(9, 5, 9, 3, 5, 0), 0, 3, 5, 9)
	gates(t, gatesOf(1, 2, 3), 1, 2, 3)
	gates(t, gatesOf(10, 9, 2, 1, 100), 1, 2, 9, 10, 100)
	gates(t, gatesOf(256, -1, greatest, least, 0, -1, 256), math.MinInt, -1, 0, 256, math.MaxInt)
	gates(t, []api.Step{{Op: api.StepGate, A: 4, B: 9}, {Op: api.StepSleep, A: 3}, {}, {Op: 66, A: 8}, {Op: -6, A: 2}, {Op: api.StepSkip, A: 1, B: 5}, {Op: api.StepAnswer}, {Op: api.StepGate, A: 1, B: -2}}, 1, 4)
	for _, f := range forms {
		if f.op != api.StepGate {
			gates(t, []api.Step{{Op: f.op, A: 5, B: 5}})
		}
	}
}

// TestGatesMany: steps that are no recipe, as there are too many, have gates, too (8.5).
func TestGatesMany(t *testing.T) {
	var l []api.Step
	var want []int
	for i := range 70000 {
		l = append(l, api.Step{Op: api.StepGate, A: int64(i * 7919 % 35000)})
	}
	for i := range 35000 {
		want = append(want, i)
	}
	gates(t, l, want...)
}

// longest holds the answer of Longest against one.
func longest(t *testing.T, l []api.Step, want int64, wantAll bool) {
	t.Helper()
	if got, all := recipe.Longest(l); got != want || all != wantAll {
		t.Fatalf("Longest(%v): %d, %t, not %d, %t", l, got, all, want, wantAll)
	}
}

// sleepsOf is a StepSleep of each number.
func sleepsOf(numbers ...int64) []api.Step {
	var l []api.Step
	for _, n := range numbers {
		l = append(l, api.Step{Op: api.StepSleep, A: n})
	}
	return l
}

// TestLongest: all sleeps are summed up, of any steps, and the sum never wraps (8.5).
func TestLongest(t *testing.T) {
	longest(t, nil, 0, true)
	longest(t, []api.Step{}, 0, true)
	longest(t, adds(most), 0, true)
	longest(t, sleepsOf(0), 0, true)
	longest(t, sleepsOf(3), 3, true)
	longest(t, sleepsOf(3, 0, 4, 4), 11, true)
	longest(t, sleepsOf(maxTime), maxTime, true)
	longest(t, sleepsOf(maxTime, 0, -5), maxTime, true)
	longest(t, sleepsOf(maxTime-1), maxTime-1, true)
	longest(t, sleepsOf(maxTime-1, 1), maxTime, true)
	longest(t, sleepsOf(1, maxTime-1), maxTime, true)
	longest(t, sleepsOf(maxTime/2, maxTime/2), maxTime, true)
	longest(t, sleepsOf(maxTime, 1), maxTime, false)
	longest(t, sleepsOf(1, maxTime), maxTime, false)
	longest(t, sleepsOf(maxTime+1), maxTime, false)
	longest(t, sleepsOf(greatest), maxTime, false)
	longest(t, sleepsOf(greatest, greatest, 2), maxTime, false)
	longest(t, sleepsOf(5, greatest, -7), maxTime, false)
	longest(t, sleepsOf(maxTime, maxTime, maxTime, maxTime), maxTime, false)
	longest(t, sleepsOf(maxTime, maxTime, maxTime, maxTime, 5), maxTime, false)
	longest(t, sleepsOf(-1), 0, true)
	longest(t, sleepsOf(least, 7, -3), 7, true)
	longest(t, sleepsOf(maxTime, least), maxTime, true)
	longest(t, sleepsOf(maxTime, -1, 1), maxTime, false)
	longest(t, []api.Step{{Op: api.StepSleep, A: 2, B: 9}, {Op: api.StepAnswer}, {Op: 77, A: 5}, {}, {Op: api.StepSkip, A: 0, B: 1}, {Op: api.StepSleep, A: 3, B: -1}}, 5, true)
	for _, f := range forms {
		if f.op != api.StepSleep {
			longest(t, []api.Step{{Op: f.op, A: 5, B: 5}}, 0, true)
		}
	}
	longest(t, slices.Repeat(sleepsOf(10), 70000), 700000, true)
	longest(t, slices.Repeat(sleepsOf(maxTime), 1024), maxTime, false)
}
