package recipe_test

import (
	"math"
	"slices"
	"testing"

	"convoy/api"
	"convoy/recipe"
)

// goes does one step from a state, and holds the state behind it against one.
func goes(t *testing.T, l []api.Step, c api.Cook, x api.Around, want api.Cook) {
	t.Helper()
	got, outcome, over, err := recipe.Do(l, c, x)
	if got != want || outcome != (api.Outcome{}) || over || err != api.OK {
		t.Fatalf("Do(%v, %v, %v): %v, %v, %t, %d, not %v", l, c, x, got, outcome, over, err, want)
	}
}

// ends does one step from a state, and holds the outcome with which the loader ends against one.
func ends(t *testing.T, l []api.Step, c api.Cook, x api.Around, want api.Outcome) {
	t.Helper()
	got, outcome, over, err := recipe.Do(l, c, x)
	if got != (api.Cook{}) || outcome != want || !over || err != api.OK {
		t.Fatalf("Do(%v, %v, %v): %v, %v, %t, %d, not %v", l, c, x, got, outcome, over, err, want)
	}
	got, outcome, over, err = recipe.On(l, c, x)
	if got != (api.Cook{}) || outcome != want || !over || err != api.OK {
		t.Fatalf("On(%v, %v, %v): %v, %v, %t, %d, not %v", l, c, x, got, outcome, over, err, want)
	}
}

// becomes does a step that works on the number, at the beginning, in the midst and at the end of a recipe.
func becomes(t *testing.T, step api.Step, x api.Around, number, want int64) {
	t.Helper()
	around := []api.Step{{Op: api.StepFail, A: 1}, step, {Op: api.StepFail, A: 2}}
	goes(t, around[1:], api.Cook{Number: number}, x, api.Cook{At: 1, Number: want})
	goes(t, around, api.Cook{At: 1, Number: number}, x, api.Cook{At: 2, Number: want})
	goes(t, around[:2], api.Cook{At: 1, Number: number}, x, api.Cook{At: 2, Number: want})
	goes(t, around[1:2], api.Cook{Number: number}, x, api.Cook{At: 1, Number: want})
}

// wrong holds the error of Do and On against one.
func wrong(t *testing.T, l []api.Step, c api.Cook, x api.Around, want api.Errno) {
	t.Helper()
	if got, outcome, over, err := recipe.Do(l, c, x); got != (api.Cook{}) || outcome != (api.Outcome{}) || over || err != want {
		t.Fatalf("Do(%v, %v, %v): %v, %v, %t, %d, not the error %d", l, c, x, got, outcome, over, err, want)
	}
	if got, outcome, over, err := recipe.On(l, c, x); got != (api.Cook{}) || outcome != (api.Outcome{}) || over || err != want {
		t.Fatalf("On(%v, %v, %v): %v, %v, %t, %d, not the error %d", l, c, x, got, outcome, over, err, want)
	}
}

// TestAdd: sums go round at the ends of the numbers (8.2).
func TestAdd(t *testing.T) {
	for _, row := range [][3]int64{
		{0, 5, 5}, {5, 0, 5}, {5, -7, -2}, {-3, 3, 0}, {-3, -4, -7},
		{greatest, 1, least}, {greatest, greatest, -2}, {least, -1, greatest}, {least, least, 0},
		{greatest, least, -1}, {least, greatest, -1}, {1 << 62, 1 << 62, least},
	} {
		becomes(t, api.Step{Op: api.StepAdd, A: row[1]}, api.Around{Run: 9}, row[0], row[2])
	}
}

// TestShift: to the left bits fall off, to the right the sign is drawn in (8.2).
func TestShift(t *testing.T) {
	for _, row := range [][3]int64{
		{5, 0, 5}, {-5, 0, -5}, {least, 0, least},
		{5, 1, 10}, {-5, 1, -10}, {greatest, 1, -2}, {least, 1, 0}, {1 << 62, 1, least},
		{1, 63, least}, {2, 63, 0}, {3, 63, least}, {-1, 63, least}, {-2, 63, 0}, {0, 63, 0},
		{5, -1, 2}, {-5, -1, -3}, {-1, -1, -1}, {1, -1, 0}, {least, -1, -1 << 62}, {greatest, -1, 1<<62 - 1},
		{greatest, -63, 0}, {least, -63, -1}, {-1, -63, -1}, {-2, -63, -1}, {0, -63, 0}, {1, -63, 0},
		{greatest, -62, 1}, {least, -62, -2}, {7, 5, 224}, {-7, -2, -2}, {0x1234, 32, 0x123400000000},
		{1, 62, 1 << 62}, {0x123400000000, -32, 0x1234},
	} {
		becomes(t, api.Step{Op: api.StepShift, A: row[1]}, api.Around{}, row[0], row[2])
	}
}

// TestTurn: bits that fall off at one end come in at the other (8.2).
func TestTurn(t *testing.T) {
	for _, row := range [][3]int64{
		{5, 0, 5}, {-5, 0, -5}, {least, 0, least},
		{5, 1, 10}, {least, 1, 1}, {greatest, 1, -2}, {-2, 1, -3}, {-1, 1, -1}, {0, 1, 0}, {1 << 62, 1, least},
		{1, 63, least}, {2, 63, 1}, {3, 63, least + 1}, {least, 63, 1 << 62}, {-1, 63, -1}, {-2, 63, greatest},
		{0x123456789abcdef0, 4, 0x23456789abcdef01}, {0x123456789abcdef0, 32, -0x6543210fedcba988},
	} {
		becomes(t, api.Step{Op: api.StepTurn, A: row[1]}, api.Around{}, row[0], row[2])
	}
}

// hash is the hash of a key as chapter 2 tells it, written out a second time, as a number with a sign.
func hash(k api.Key) int64 {
	h := uint64(0xcbf29ce484222325)
	for _, b := range append([]byte{byte(k.Space), byte(k.Space >> 8), byte(len(k.Name))}, k.Name...) {
		h = (h ^ uint64(b)) * 0x100000001b3
	}
	h = (h ^ h>>32) * 0x9e3779b97f4a7c15
	return int64(h ^ h>>29)
}

// TestKey: the number is mixed with the key's hash, be that below 0 or not, of keys that may not be, too (8.2).
func TestKey(t *testing.T) {
	below, above := 0, 0
	for _, name := range []string{"", "a", "b", "c", "ab", "x:y", "\x00", "zz", string(make([]byte, 64)), string(make([]byte, 65)), string(make([]byte, 300))} {
		for _, space := range []uint16{0, 1, 7, 65535} {
			x := api.Around{Key: api.Key{Space: space, Name: name}, Run: 5}
			h := hash(x.Key)
			if h < 0 {
				below++
			} else {
				above++
			}
			for _, number := range []int64{0, 1, -1, 77, h, ^h, least, greatest} {
				becomes(t, api.Step{Op: api.StepKey}, x, number, number^h)
			}
		}
	}
	if below == 0 || above == 0 {
		t.Error("no hash is below 0, or all are")
	}
}

// TestRun: the run's number is added, whatever it is (8.2).
func TestRun(t *testing.T) {
	for _, row := range [][3]int64{
		{0, 1, 1}, {5, 3, 8}, {-3, 3, 0}, {greatest, 1, least}, {0, 0, 0}, {5, -2, 3},
		{greatest, greatest, -2}, {least, -1, greatest}, {least, least, 0},
	} {
		x := api.Around{Run: int(row[1]), Key: api.Key{Name: "a"}, Cancelled: true}
		becomes(t, api.Step{Op: api.StepRun}, x, row[0], row[2])
	}
}

// TestGate: behind a gate it waits, at the place behind it (8.2).
func TestGate(t *testing.T) {
	for _, a := range []int64{0, 1, 2, 254, 255} {
		l := []api.Step{{Op: api.StepGate, A: a}, {Op: api.StepAdd, A: 4}, {Op: api.StepGate, A: 255 - a}}
		x := api.Around{Cancelled: a == 1}
		goes(t, l, api.Cook{Number: 7}, x, api.Cook{At: 1, Number: 7, Wait: api.WaitGate, On: a})
		goes(t, l, api.Cook{At: 1, Number: 7}, x, api.Cook{At: 2, Number: 11})
		goes(t, l, api.Cook{At: 2, Number: 11}, x, api.Cook{At: 3, Number: 11, Wait: api.WaitGate, On: 255 - a})
		wrong(t, l, api.Cook{At: 3, Number: 11, Wait: api.WaitGate, On: 255 - a}, x, api.ErrArg)
		ends(t, l, api.Cook{At: 3, Number: 11}, x, api.Outcome{Value: 11})
	}
}

// TestSleep: behind a sleep it waits, of no tick, too (8.2).
func TestSleep(t *testing.T) {
	for _, a := range []int64{0, 1, 2, maxTime - 1, maxTime} {
		l := []api.Step{{Op: api.StepSleep, A: a}, {Op: api.StepSleep, A: maxTime - a}}
		x := api.Around{Cancelled: a == 1}
		goes(t, l, api.Cook{Number: -7}, x, api.Cook{At: 1, Number: -7, Wait: api.WaitSleep, On: a})
		wrong(t, l, api.Cook{At: 1, Number: -7, Wait: api.WaitSleep, On: a}, x, api.ErrArg)
		goes(t, l, api.Cook{At: 1, Number: -7}, x, api.Cook{At: 2, Number: -7, Wait: api.WaitSleep, On: maxTime - a})
		ends(t, l, api.Cook{At: 2, Number: -7}, x, api.Outcome{Value: -7})
	}
}

// TestHeed: a loader that heeds ends, if its token is cancelled, and goes on, if not (8.2).
func TestHeed(t *testing.T) {
	heed := api.Step{Op: api.StepHeed}
	for _, run := range []int{1, 3, 0, -5, math.MaxInt, math.MinInt} {
		for _, number := range []int64{0, 1, -1, greatest, least} {
			becomes(t, heed, api.Around{Run: run}, number, number)
			l := []api.Step{{Op: api.StepAdd, A: 1}, heed, {Op: api.StepAdd, A: 1}}
			ends(t, l, api.Cook{At: 1, Number: number}, api.Around{Run: run, Cancelled: true}, api.Outcome{Fail: api.Fail{Kind: api.FailAbort, Run: run}})
		}
	}
}

// TestSkipAsks: a skip goes on at the next step, or beyond B of them, as what it asks for holds (8.2).
func TestSkipAsks(t *testing.T) {
	holds := []func(number int64, cancelled bool) bool{
		func(number int64, _ bool) bool { return number == 0 },
		func(number int64, _ bool) bool { return number < 0 },
		func(number int64, _ bool) bool { return number%2 != 0 },
		func(_ int64, cancelled bool) bool { return cancelled },
	}
	for a, hold := range holds {
		for _, number := range []int64{0, 1, 2, 3, -1, -2, -3, greatest, greatest - 1, least, least + 1, 1 << 32} {
			for _, cancelled := range []bool{false, true} {
				l := append([]api.Step{{Op: api.StepFail}, {Op: api.StepSkip, A: int64(a), B: 2}}, adds(5)...)
				at := 2
				if hold(number, cancelled) {
					at = 4
				}
				goes(t, l, api.Cook{At: 1, Number: number}, api.Around{Cancelled: cancelled}, api.Cook{At: at, Number: number})
			}
		}
	}
}

// TestSkipFar: a skip to the end, or beyond it, is followed by the end (8.2).
func TestSkipFar(t *testing.T) {
	for _, row := range [][4]int{
		// how many steps, the place of the skip, B, the place behind it
		{3, 0, 1, 2}, {3, 0, 2, 3}, {3, 0, 3, 3}, {3, 0, 256, 3}, {3, 1, 1, 3}, {3, 1, 2, 3}, {3, 2, 1, 3},
		{3, 2, 256, 3}, {1, 0, 1, 1}, {1, 0, 256, 1}, {256, 0, 254, 255}, {256, 0, 255, 256}, {256, 0, 256, 256},
		{256, 255, 1, 256}, {256, 255, 256, 256}, {256, 100, 154, 255}, {256, 100, 155, 256}, {256, 100, 156, 256},
	} {
		n, at, b, behind := row[0], row[1], int64(row[2]), row[3]
		l := slices.Repeat([]api.Step{{Op: api.StepFail, A: 1}}, n)
		l[at] = api.Step{Op: api.StepSkip, A: 1, B: b}
		goes(t, l, api.Cook{At: at, Number: -3}, api.Around{Run: 2}, api.Cook{At: behind, Number: -3})
		goes(t, l, api.Cook{At: at, Number: 3}, api.Around{Run: 2}, api.Cook{At: at + 1, Number: 3})
		want := api.Outcome{Value: -3}
		if behind < n {
			want = api.Outcome{Fail: api.Fail{Kind: api.FailLoad, Code: 1, Run: 2}}
		}
		ends(t, l, api.Cook{At: behind, Number: -3}, api.Around{Run: 2}, want)
		got, outcome, over, err := recipe.On(l, api.Cook{At: at, Number: -3}, api.Around{Run: 2})
		if got != (api.Cook{}) || outcome != want || !over || err != api.OK {
			t.Errorf("On behind a skip of %d at %d of %d: %v, %v, %t, %d", b, at, n, got, outcome, over, err)
		}
	}
}

// TestEnds: every way in which a loader ends (8.2).
func TestEnds(t *testing.T) {
	for _, number := range []int64{0, 1, -1, 77, greatest, least} {
		x := api.Around{Key: api.Key{Name: "a"}, Run: 4, Cancelled: number == 1}
		l := []api.Step{{Op: api.StepAnswer}, {Op: api.StepFail, A: 9}, {Op: api.StepPanic, A: 8}}
		ends(t, l, api.Cook{Number: number}, x, api.Outcome{Value: number})
		ends(t, l, api.Cook{At: 1, Number: number}, x, api.Outcome{Fail: api.Fail{Kind: api.FailLoad, Code: 9, Run: 4}})
		ends(t, l, api.Cook{At: 2, Number: number}, x, api.Outcome{Fail: api.Fail{Kind: api.FailPanic, Code: 8, Run: 4}})
		ends(t, l, api.Cook{At: 3, Number: number}, x, api.Outcome{Value: number})
		ends(t, nil, api.Cook{Number: number}, x, api.Outcome{Value: number})
		ends(t, []api.Step{}, api.Cook{Number: number}, x, api.Outcome{Value: number})
		ends(t, adds(most), api.Cook{At: most, Number: number}, x, api.Outcome{Value: number})
	}
	for _, code := range []int64{0, 1, -1, greatest, least} {
		for _, run := range []int{1, 0, -1, math.MaxInt, math.MinInt} {
			x := api.Around{Run: run}
			ends(t, []api.Step{{Op: api.StepFail, A: code}}, api.Cook{Number: 5}, x, api.Outcome{Fail: api.Fail{Kind: api.FailLoad, Code: int(code), Run: run}})
			ends(t, []api.Step{{Op: api.StepPanic, A: code}}, api.Cook{Number: 5}, x, api.Outcome{Fail: api.Fail{Kind: api.FailPanic, Code: int(code), Run: run}})
		}
	}
}

// TestStateOn: what is laid into On of a state that does not wait is not asked, and not in a state behind it (8.2, R2).
func TestStateOn(t *testing.T) {
	l := []api.Step{{Op: api.StepAdd, A: 1}, {Op: api.StepGate, A: 3}, {Op: api.StepSkip, B: 1}, {Op: api.StepHeed}}
	goes(t, l, api.Cook{On: 9}, api.Around{}, api.Cook{At: 1, Number: 1})
	goes(t, l, api.Cook{At: 1, On: 9}, api.Around{}, api.Cook{At: 2, Wait: api.WaitGate, On: 3})
	goes(t, l, api.Cook{At: 2, On: -9}, api.Around{}, api.Cook{At: 4})
	goes(t, l, api.Cook{At: 3, On: 9}, api.Around{}, api.Cook{At: 4})
	ends(t, l, api.Cook{At: 4, Number: 2, On: 9}, api.Around{}, api.Outcome{Value: 2})
}

// TestWrongState: a place that is none, and a state that waits, are wrong (8.2).
func TestWrongState(t *testing.T) {
	for _, n := range []int{0, 1, 2, 255, most} {
		l := adds(n)
		for _, at := range []int{-1, -2, math.MinInt, n + 1, n + 2, 257, 512, math.MaxInt, math.MaxInt - 1} {
			wrong(t, l, api.Cook{At: at}, api.Around{Run: 1}, api.ErrArg)
			wrong(t, l, api.Cook{At: at, Wait: 1}, api.Around{Run: 1}, api.ErrArg)
		}
		for _, at := range []int{0, n / 2, n} {
			for _, wait := range []int{api.WaitGate, api.WaitSleep, 3, -1, math.MaxInt, math.MinInt} {
				wrong(t, l, api.Cook{At: at, Number: 5, Wait: wait}, api.Around{Run: 1}, api.ErrArg)
				wrong(t, l, api.Cook{At: at, Number: 5, Wait: wait, On: 7}, api.Around{Run: 1}, api.ErrArg)
			}
		}
	}
}

// TestWrongRecipe: a recipe that may not be is told ahead of a state that is wrong, wherever its step stands (8.2, 8.3).
func TestWrongRecipe(t *testing.T) {
	lists := [][]api.Step{adds(most + 1), adds(2 * most), make([]api.Step, most+1)}
	for _, step := range bad() {
		lists = append(lists, []api.Step{step}, append(adds(3), step), append([]api.Step{{Op: api.StepAnswer}, step}, adds(3)...))
	}
	for _, l := range lists {
		for _, c := range []api.Cook{{}, {At: 1}, {At: len(l)}, {At: -1}, {At: len(l) + 1}, {Wait: api.WaitGate}, {At: 1, Wait: 9}} {
			wrong(t, l, c, api.Around{Run: 1}, api.ErrStep)
		}
		if outcome, slept, err := recipe.Alone(l, api.Around{Run: 1}); outcome != (api.Outcome{}) || slept != 0 || err != api.ErrStep {
			t.Fatalf("Alone(%v): %v, %d, %d", l, outcome, slept, err)
		}
	}
}

// TestOn: On goes on until it waits or ends, from any place (8.2).
func TestOn(t *testing.T) {
	l := []api.Step{
		{Op: api.StepAdd, A: 3}, {Op: api.StepShift, A: 2}, {Op: api.StepSleep}, {Op: api.StepAdd, A: -13},
		{Op: api.StepSkip, A: 1, B: 1}, {Op: api.StepPanic, A: 5}, {Op: api.StepGate, A: 9}, {Op: api.StepHeed}, {Op: api.StepAnswer}, {Op: api.StepFail, A: 6},
	}
	x := api.Around{Run: 8}
	for _, row := range []struct{ from, to api.Cook }{
		{api.Cook{}, api.Cook{At: 3, Number: 12, Wait: api.WaitSleep}},
		{api.Cook{At: 2, Number: 9}, api.Cook{At: 3, Number: 9, Wait: api.WaitSleep}},
		{api.Cook{At: 3, Number: 12}, api.Cook{At: 7, Number: -1, Wait: api.WaitGate, On: 9}},
		{api.Cook{At: 6, Number: 5, On: 4}, api.Cook{At: 7, Number: 5, Wait: api.WaitGate, On: 9}},
	} {
		got, outcome, over, err := recipe.On(l, row.from, x)
		if got != row.to || outcome != (api.Outcome{}) || over || err != api.OK {
			t.Errorf("On from %v: %v, %v, %t, %d, not %v", row.from, got, outcome, over, err, row.to)
		}
	}
	for _, row := range []struct {
		from      api.Cook
		cancelled bool
		want      api.Outcome
	}{
		{api.Cook{At: 7, Number: -1}, false, api.Outcome{Value: -1}},
		{api.Cook{At: 7, Number: -1}, true, api.Outcome{Fail: api.Fail{Kind: api.FailAbort, Run: 8}}},
		{api.Cook{At: 8, Number: -1}, true, api.Outcome{Value: -1}},
		{api.Cook{At: 3, Number: 13}, false, api.Outcome{Fail: api.Fail{Kind: api.FailPanic, Code: 5, Run: 8}}},
		{api.Cook{At: 9, Number: 13}, false, api.Outcome{Fail: api.Fail{Kind: api.FailLoad, Code: 6, Run: 8}}},
		{api.Cook{At: 10, Number: 13}, false, api.Outcome{Value: 13}},
	} {
		got, outcome, over, err := recipe.On(l, row.from, api.Around{Run: 8, Cancelled: row.cancelled})
		if got != (api.Cook{}) || outcome != row.want || !over || err != api.OK {
			t.Errorf("On from %v: %v, %v, %t, %d, not %v", row.from, got, outcome, over, err, row.want)
		}
	}
}

// TestOnAll: On does as many steps as there may be in one call (8.2).
func TestOnAll(t *testing.T) {
	l := slices.Repeat([]api.Step{{Op: api.StepAdd, A: 2}}, most)
	got, outcome, over, err := recipe.On(l, api.Cook{Number: 1}, api.Around{})
	if got != (api.Cook{}) || outcome != (api.Outcome{Value: 513}) || !over || err != api.OK {
		t.Errorf("On of all: %v, %v, %t, %d", got, outcome, over, err)
	}
	l[most-1] = api.Step{Op: api.StepGate, A: 1}
	got, outcome, over, err = recipe.On(l, api.Cook{Number: 1}, api.Around{})
	if got != (api.Cook{At: most, Number: 511, Wait: api.WaitGate, On: 1}) || outcome != (api.Outcome{}) || over || err != api.OK {
		t.Errorf("On to a gate at the end: %v, %v, %t, %d", got, outcome, over, err)
	}
}

// alone holds the answer of Alone against one.
func alone(t *testing.T, l []api.Step, x api.Around, want api.Outcome, wantSlept int64) {
	t.Helper()
	if outcome, slept, err := recipe.Alone(l, x); outcome != want || slept != wantSlept || err != api.OK {
		t.Fatalf("Alone(%v, %v): %v, %d, %d, not %v, %d", l, x, outcome, slept, err, want, wantSlept)
	}
}

// TestAlone: gates and sleeps go by, and what was slept is told beside whatever it ends with (8.3).
func TestAlone(t *testing.T) {
	x := api.Around{Run: 6}
	sleep := func(n int64) api.Step { return api.Step{Op: api.StepSleep, A: n} }
	alone(t, nil, x, api.Outcome{}, 0)
	alone(t, []api.Step{}, x, api.Outcome{}, 0)
	alone(t, []api.Step{sleep(0)}, x, api.Outcome{}, 0)
	alone(t, []api.Step{sleep(4)}, x, api.Outcome{}, 4)
	alone(t, gatesOf(0, 7, 255), x, api.Outcome{}, 0)
	alone(t, []api.Step{{Op: api.StepGate, A: 200}, sleep(3), {Op: api.StepAdd, A: 5}, sleep(8), {Op: api.StepGate, A: 1}}, x, api.Outcome{Value: 5}, 11)
	alone(t, []api.Step{sleep(3), {Op: api.StepAdd, A: 5}, {Op: api.StepAnswer}, sleep(8)}, x, api.Outcome{Value: 5}, 3)
	alone(t, []api.Step{sleep(3), {Op: api.StepSkip, A: 0, B: 2}, sleep(8), sleep(9), sleep(10)}, x, api.Outcome{}, 13)
	alone(t, []api.Step{sleep(3), {Op: api.StepSkip, A: 1, B: 2}, sleep(8), sleep(9), sleep(10)}, x, api.Outcome{}, 30)
	alone(t, []api.Step{sleep(3), {Op: api.StepFail, A: 2}, sleep(8)}, x, api.Outcome{Fail: api.Fail{Kind: api.FailLoad, Code: 2, Run: 6}}, 3)
	alone(t, []api.Step{sleep(3), {Op: api.StepPanic, A: 2}, sleep(8)}, x, api.Outcome{Fail: api.Fail{Kind: api.FailPanic, Code: 2, Run: 6}}, 3)
	l := []api.Step{{Op: api.StepAdd, A: 2}, sleep(3), {Op: api.StepHeed}, sleep(8)}
	alone(t, l, x, api.Outcome{Value: 2}, 11)
	alone(t, l, api.Around{Run: 6, Cancelled: true}, api.Outcome{Fail: api.Fail{Kind: api.FailAbort, Run: 6}}, 3)
}

// TestAloneSlept: what was slept is told up to MaxTime, and never wraps (8.3).
func TestAloneSlept(t *testing.T) {
	x := api.Around{Run: 1}
	alone(t, sleepsOf(maxTime), x, api.Outcome{}, maxTime)
	alone(t, sleepsOf(maxTime, 0), x, api.Outcome{}, maxTime)
	alone(t, sleepsOf(maxTime-1), x, api.Outcome{}, maxTime-1)
	alone(t, sleepsOf(maxTime-1, 1), x, api.Outcome{}, maxTime)
	alone(t, sleepsOf(1, maxTime-1), x, api.Outcome{}, maxTime)
	alone(t, sleepsOf(1, maxTime-1, 1), x, api.Outcome{}, maxTime)
	alone(t, sleepsOf(1, maxTime), x, api.Outcome{}, maxTime)
	alone(t, sleepsOf(maxTime, maxTime), x, api.Outcome{}, maxTime)
	alone(t, sleepsOf(maxTime, maxTime, maxTime, maxTime), x, api.Outcome{}, maxTime)
	alone(t, sleepsOf(maxTime, maxTime, maxTime, maxTime, 5), x, api.Outcome{}, maxTime)
	alone(t, slices.Repeat(sleepsOf(maxTime), most), x, api.Outcome{}, maxTime)
	alone(t, slices.Repeat(sleepsOf(maxTime/most), most), x, api.Outcome{}, maxTime)
	alone(t, append(slices.Repeat(sleepsOf(maxTime/most), most-1), api.Step{Op: api.StepSleep, A: maxTime/most - 1}), x, api.Outcome{}, maxTime-1)
	alone(t, append(slices.Repeat(sleepsOf(maxTime/most), most-1), api.Step{Op: api.StepSleep, A: maxTime/most + 1}), x, api.Outcome{}, maxTime)
}

// TestExamples: the chapter's first example.
func TestExamples(t *testing.T) {
	alone(t, []api.Step{{Op: api.StepAdd, A: 5}, {Op: api.StepShift, A: 1}, {Op: api.StepAnswer}}, api.Around{}, api.Outcome{Value: 10}, 0)
	alone(t, nil, api.Around{}, api.Outcome{}, 0)
	alone(t, []api.Step{{Op: api.StepFail, A: 7}}, api.Around{Run: 3}, api.Outcome{Fail: api.Fail{Kind: api.FailLoad, Code: 7, Run: 3}}, 0)
	l := append(gatesOf(2), api.Step{Op: api.StepAnswer})
	got, outcome, over, err := recipe.On(l, api.Cook{}, api.Around{})
	if got != (api.Cook{At: 1, Wait: api.WaitGate, On: 2}) || outcome != (api.Outcome{}) || over || err != api.OK {
		t.Errorf("On(gate 2, answer): %v, %v, %t, %d", got, outcome, over, err)
	}
	check(t, gatesOf(256), 0, api.ErrStep)
}
