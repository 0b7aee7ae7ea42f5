package load_test

import (
	"fmt"
	"math"
	"slices"
	"testing"

	"convoy/api"
	"convoy/clock"
	"convoy/gate"
	"convoy/load"
	"convoy/recipe"
	"convoy/token"
)

// TestStepKinds: what each kind of answer tells, and nothing else (14.2).
func TestStepKinds(t *testing.T) {
	a := fresh()
	a.t.Cancel(2)
	a.c.In(1)
	a.g.Open(8)
	l := of(t, 6, item(4, "add 2 gate 8 gate 9 sleep 30 add 1"), held(5, 2, "add 1"), item(7, ""))
	step(t, l, a, api.Loaded{What: api.LoadStep, Run: 4})
	step(t, l, a, api.Loaded{What: api.LoadStep, Run: 4})
	step(t, l, a, api.Loaded{What: api.LoadGate, Run: 4, On: 9})
	l.Wake()
	step(t, l, a, api.Loaded{What: api.LoadSleep, Run: 4, On: 30, Timer: 2})
	l.Wake()
	step(t, l, a, api.Loaded{What: api.LoadStep, Run: 4})
	step(t, l, a, api.Loaded{What: api.LoadRun, Run: 4})
	step(t, l, a, api.Loaded{What: api.LoadSkip, Run: 5})
	step(t, l, a, api.Loaded{What: api.LoadEnd, Run: 7})
	stuck(t, l, a, api.ErrOver)
	results(t, l, value(4, 3), failed(5, api.FailAbort, 0, 5), value(7, 0))
}

// TestStepKnowsItsRun: a recipe is done with its own item's key and run, and from its own beginning on (14.2).
func TestStepKnowsItsRun(t *testing.T) {
	a := fresh()
	texts := []string{"key", "run", "add 5 key shift 1 run", "add -3 turn 60", "", "skip 0 1 fail 3 run answer fail 4", "run fail -9", "shift 2"}
	var items []api.Item
	var want []api.Result
	for i, text := range texts {
		made := item(3*i+2, text)
		outcome, _, _ := recipe.Alone(made.Recipe, api.Around{Key: made.Key, Run: made.Run})
		items, want = append(items, made), append(want, api.Result{Run: made.Run, Outcome: outcome})
	}
	l := of(t, 1, items...)
	playOut(t, l, a)
	results(t, l, want...)
}

// TestStepOneByOne: a step of the load is one of its recipe, and one for the end of a recipe that does not end by itself (14.2).
func TestStepOneByOne(t *testing.T) {
	a := fresh()
	l := of(t, 1, item(1, "add 1 add 2 add 4"), item(2, "answer add 1"), item(3, ""), item(4, "skip 0 9 add 1"))
	for place, did := range []int{3, 0, 0, 1} {
		for range did {
			if l.At() != place {
				t.Fatalf("At: %d, not %d", l.At(), place)
			}
			step(t, l, a, api.Loaded{What: api.LoadStep, Run: place + 1})
		}
		what := api.LoadRun
		if place == 3 {
			what = api.LoadEnd
		}
		step(t, l, a, api.Loaded{What: what, Run: place + 1})
	}
	results(t, l, value(1, 7), value(2, 0), value(3, 0), value(4, 0))
}

// tellsToken is a recipe that fails with 1 where its token is cancelled at its second step, and with 2 where it is not.
const tellsToken = "add 1 skip 3 1 fail 2 fail 1"

// TestStepToken: a recipe sees its own token alone; one that is 0, live, made by nobody, or of nil tokens, is not cancelled (14.2).
func TestStepToken(t *testing.T) {
	for _, number := range []int{0, 1, 3, 10, math.MaxInt} {
		a := fresh()
		a.t.Cancel(2)
		l := of(t, 1, held(1, number, tellsToken), held(2, number, "heed add 4"))
		step(t, l, a, api.Loaded{What: api.LoadStep, Run: 1})
		playOut(t, l, a)
		results(t, l, failed(1, api.FailLoad, 2, 1), value(2, 4))
	}
	for _, tokens := range []*token.Tokens{nil, token.New()} {
		a := fresh()
		a.t = tokens
		l := of(t, 1, held(1, 2, tellsToken), held(2, 0, tellsToken), held(3, 2, "heed add 4"))
		playOut(t, l, a)
		results(t, l, failed(1, api.FailLoad, 2, 1), failed(2, api.FailLoad, 2, 2), value(3, 4))
	}
}

// TestStepSkips: a run whose token is cancelled ahead of its recipe's first step is skipped, whatever its recipe, and however the token was cancelled (14.2).
func TestStepSkips(t *testing.T) {
	ways := []func(*token.Tokens){
		func(n *token.Tokens) { n.Cancel(2) },
		func(n *token.Tokens) { n.Hold(2); n.Let(2) },
		func(n *token.Tokens) { n.Cancel(2); n.Hold(2) },
	}
	for _, way := range ways {
		for _, text := range []string{"", "add 1", "answer", "panic 3", "fail 1", "gate 7", "sleep 9", "heed", "skip 3 2 add 1"} {
			a := fresh()
			way(a.t)
			beside := a.told()
			l := of(t, 1, held(5, 2, text), held(6, 2, text), held(9, 1, "add 8"))
			step(t, l, a, api.Loaded{What: api.LoadSkip, Run: 5})
			if l.At() != 1 || l.Over() || len(l.Results()) != 0 {
				t.Fatalf("behind a skip: %s", told(l))
			}
			// Nothing is waited for, so that neither gates nor a clock are asked for.
			step(t, l, with(nil, nil, a.t), api.Loaded{What: api.LoadSkip, Run: 6})
			step(t, l, a, api.Loaded{What: api.LoadStep, Run: 9})
			step(t, l, a, api.Loaded{What: api.LoadEnd, Run: 9})
			results(t, l, failed(5, api.FailAbort, 0, 5), failed(6, api.FailAbort, 0, 6), value(9, 8))
			if got := a.told(); got != beside {
				t.Fatalf("skips changed %s to %s", beside, got)
			}
		}
	}
	a := fresh()
	below, _ := a.t.Make(4)
	l := of(t, 1, held(1, below, "add 1"))
	a.t.Cancel(4)
	step(t, l, a, api.Loaded{What: api.LoadEnd, Run: 1})
	results(t, l, failed(1, api.FailAbort, 0, 1))
}

// with puts gates, a clock and tokens together.
func with(g *gate.Gates, c *clock.Clock, t *token.Tokens) around { return around{g, c, t} }

// TestStepCancelledLater: behind its first step a recipe goes on, and sees that its token is cancelled (14.2).
func TestStepCancelledLater(t *testing.T) {
	a := fresh()
	l := of(t, 1, held(1, 3, tellsToken), held(2, 3, tellsToken), held(3, 4, tellsToken), held(4, 5, "add 6 heed add 1"))
	step(t, l, a, api.Loaded{What: api.LoadStep, Run: 1})
	a.t.Cancel(3)
	step(t, l, a, api.Loaded{What: api.LoadStep, Run: 1})
	step(t, l, a, api.Loaded{What: api.LoadRun, Run: 1})
	step(t, l, a, api.Loaded{What: api.LoadSkip, Run: 2})
	step(t, l, a, api.Loaded{What: api.LoadStep, Run: 3})
	step(t, l, a, api.Loaded{What: api.LoadStep, Run: 3})
	step(t, l, a, api.Loaded{What: api.LoadRun, Run: 3})
	step(t, l, a, api.Loaded{What: api.LoadStep, Run: 4})
	a.t.Cancel(5)
	step(t, l, a, api.Loaded{What: api.LoadEnd, Run: 4})
	results(t, l, failed(1, api.FailLoad, 1, 1), failed(2, api.FailAbort, 0, 2), failed(3, api.FailLoad, 2, 3), failed(4, api.FailAbort, 0, 4))
}

// TestStepCancelledWhileWaiting: a recipe that began by waiting has begun, and is not skipped (14.2).
func TestStepCancelledWhileWaiting(t *testing.T) {
	for _, text := range []string{"gate 2", "sleep 5", "sleep 0", "skip 0 1 add 4"} {
		a := fresh()
		l := of(t, 1, held(1, 3, text+" add 7"), held(2, 3, text+" heed"))
		if _, err := l.Step(a.g, a.c, a.t); err != api.OK {
			t.Fatalf("Step: %d", err)
		}
		a.t.Cancel(3)
		l.Wake()
		step(t, l, a, api.Loaded{What: api.LoadStep, Run: 1})
		step(t, l, a, api.Loaded{What: api.LoadRun, Run: 1})
		step(t, l, a, api.Loaded{What: api.LoadEnd, Run: 2})
		results(t, l, value(1, 7), failed(2, api.FailAbort, 0, 2))
	}
	a := fresh()
	a.g.Open(2)
	l := of(t, 1, held(1, 3, "gate 2 add 7"))
	step(t, l, a, api.Loaded{What: api.LoadStep, Run: 1})
	a.t.Cancel(3)
	step(t, l, a, api.Loaded{What: api.LoadStep, Run: 1})
	step(t, l, a, api.Loaded{What: api.LoadEnd, Run: 1})
	results(t, l, value(1, 7))
}

// TestStepCancelledBehindAnError: a first step that told an error is none, so the recipe has not begun (14.2).
func TestStepCancelledBehindAnError(t *testing.T) {
	for _, text := range []string{"gate 2 add 1", "sleep 5 add 1"} {
		a := fresh()
		none := with(nil, nil, a.t)
		l := of(t, 1, item(1, "add 9"), held(2, 3, text), held(3, 1, "add 2"))
		step(t, l, none, api.Loaded{What: api.LoadStep, Run: 1})
		step(t, l, none, api.Loaded{What: api.LoadRun, Run: 1})
		stuck(t, l, none, api.ErrArg)
		a.t.Cancel(3)
		step(t, l, none, api.Loaded{What: api.LoadSkip, Run: 2})
		step(t, l, none, api.Loaded{What: api.LoadStep, Run: 3})
		step(t, l, none, api.Loaded{What: api.LoadEnd, Run: 3})
		results(t, l, value(1, 9), failed(2, api.FailAbort, 0, 2), value(3, 2))
	}
}

// waits holds what a load waits for against a kind, a gate or how many ticks, and a timer.
func waits(t *testing.T, l *load.Load, wait int, on int64, timer int) {
	t.Helper()
	if how, what, is := l.Waits(); how != wait || what != on || is != (wait != 0) || l.Timer() != timer {
		t.Fatalf("Waits: %d, %d, %t, Timer: %d, not %d, %d, %d", how, what, is, l.Timer(), wait, on, timer)
	}
}

// TestStepOpenGate: it does not wait, and is not among those who do (14.2).
func TestStepOpenGate(t *testing.T) {
	for _, number := range []int64{0, 1, 100, 255} {
		a := fresh()
		a.g.Open(int(number))
		beside := a.told()
		l := of(t, 4, item(1, fmt.Sprintf("add 2 gate %d add 3", number)))
		step(t, l, a, api.Loaded{What: api.LoadStep, Run: 1})
		step(t, l, a, api.Loaded{What: api.LoadStep, Run: 1})
		waits(t, l, 0, 0, 0)
		step(t, l, a, api.Loaded{What: api.LoadStep, Run: 1})
		step(t, l, a, api.Loaded{What: api.LoadEnd, Run: 1})
		results(t, l, value(1, 5))
		if got := a.told(); got != beside {
			t.Fatalf("an open gate: %s, not %s", got, beside)
		}
	}
}

// TestStepShutGate: it waits there under its own number, behind the others, and goes on behind the gate, open or not, when it is woken (14.2).
func TestStepShutGate(t *testing.T) {
	for _, number := range []int64{0, 1, 100, 255} {
		for _, who := range []int{1, 4, math.MaxInt} {
			a := fresh()
			a.g.Come(int(number), -7)
			l := of(t, who, item(8, fmt.Sprintf("add 2 gate %d add 3", number)), item(9, ""))
			step(t, l, a, api.Loaded{What: api.LoadStep, Run: 8})
			step(t, l, a, api.Loaded{What: api.LoadGate, Run: 8, On: number})
			waits(t, l, api.WaitGate, number, 0)
			if got := a.g.Waiting(int(number)); !slices.Equal(got, []int{-7, who}) || a.g.Len() != 2 || len(a.c.Armed()) != 0 {
				t.Fatalf("Waiting: %v, of %d", got, a.g.Len())
			}
			stuck(t, l, a, api.ErrWait)
			if passed, _ := a.g.Pass(int(number), 2); !slices.Equal(passed, []int{-7, who}) {
				t.Fatalf("Pass: %v", passed)
			}
			stuck(t, l, a, api.ErrWait)
			l.Wake()
			waits(t, l, 0, 0, 0)
			step(t, l, a, api.Loaded{What: api.LoadStep, Run: 8})
			step(t, l, a, api.Loaded{What: api.LoadRun, Run: 8})
			step(t, l, a, api.Loaded{What: api.LoadEnd, Run: 9})
			results(t, l, value(8, 5), value(9, 0))
		}
	}
}

// TestStepGateWrong: nil gates, and a number that waits at a gate already, at the gate itself or at another: nothing is changed (14.2).
func TestStepGateWrong(t *testing.T) {
	for _, text := range []string{"gate 3 add 1", "add 5 gate 3 add 1"} {
		for _, at := range []int{3, 8} {
			a := fresh()
			l := of(t, 2, item(1, "add 1"), held(2, 1, text))
			for l.At() == 0 {
				l.Step(a.g, a.c, a.t)
			}
			if text[0] == 'a' {
				step(t, l, a, api.Loaded{What: api.LoadStep, Run: 2})
			}
			stuck(t, l, with(nil, a.c, a.t), api.ErrArg)
			a.g.Come(at, 2)
			stuck(t, l, a, api.ErrTwice)
			a.g.Leave(2)
			step(t, l, a, api.Loaded{What: api.LoadGate, Run: 2, On: 3})
		}
	}
	// Who waits elsewhere is refused at an open gate, too.
	a := fresh()
	a.g.Open(3)
	a.g.Come(8, 2)
	l := of(t, 2, item(1, "gate 3"))
	stuck(t, l, a, api.ErrTwice)
	a.g.Pass(8, 1)
	step(t, l, a, api.Loaded{What: api.LoadStep, Run: 1})
}

// TestStepSleep: a timer is armed for so many ticks from now, and is told, as long as it sleeps (14.2).
func TestStepSleep(t *testing.T) {
	for _, from := range []int64{0, 7, longest - 3, longest} {
		for _, ticks := range []int64{0, 1, 5, longest - 1, longest} {
			a := fresh()
			a.c.Advance(from)
			a.c.In(2)
			a.c.In(3)
			a.c.Stop(2)
			l := of(t, 4, item(8, fmt.Sprintf("add 2 sleep %d add 3", ticks)), item(9, "sleep 1"))
			step(t, l, a, api.Loaded{What: api.LoadStep, Run: 8})
			step(t, l, a, api.Loaded{What: api.LoadSleep, Run: 8, On: ticks, Timer: 3})
			waits(t, l, api.WaitSleep, ticks, 3)
			if left, armed := a.c.Left(3); left != min(ticks, longest-from) || !armed || len(a.c.Armed()) != 2 || a.g.Len() != 0 {
				t.Fatalf("Left: %d, %t, of %v", left, armed, a.c.Armed())
			}
			stuck(t, l, a, api.ErrWait)
			a.c.Advance(min(ticks, longest-from))
			stuck(t, l, a, api.ErrWait)
			l.Wake()
			waits(t, l, 0, 0, 0)
			step(t, l, a, api.Loaded{What: api.LoadStep, Run: 8})
			waits(t, l, 0, 0, 0)
			step(t, l, a, api.Loaded{What: api.LoadRun, Run: 8})
			step(t, l, a, api.Loaded{What: api.LoadSleep, Run: 9, On: 1, Timer: 4})
			waits(t, l, api.WaitSleep, 1, 4)
			l.Wake()
			step(t, l, a, api.Loaded{What: api.LoadEnd, Run: 9})
			results(t, l, value(8, 5), value(9, 0))
		}
	}
}

// TestStepSleepWrong: a nil clock, and one on which as many timers are armed as may be: nothing is changed (14.2).
func TestStepSleepWrong(t *testing.T) {
	full := clock.New()
	for range api.MaxTimers {
		full.In(5)
	}
	for _, text := range []string{"sleep 0 add 1", "sleep 5 add 1", "add 5 sleep 5 add 1"} {
		a := fresh()
		a.c = full.Clone()
		l := of(t, 2, item(1, "add 1"), held(2, 1, text))
		for l.At() == 0 {
			l.Step(a.g, a.c, a.t)
		}
		if text[0] == 'a' {
			step(t, l, a, api.Loaded{What: api.LoadStep, Run: 2})
		}
		stuck(t, l, with(a.g, nil, a.t), api.ErrArg)
		stuck(t, l, a, api.ErrMany)
		a.c.Stop(9)
		made, _ := recipe.Longest(item(2, text).Recipe)
		step(t, l, a, api.Loaded{What: api.LoadSleep, Run: 2, On: made, Timer: api.MaxTimers + 1})
		stuck(t, l, a, api.ErrWait)
	}
}

// TestStepAsksForNoMore: without gates, clock and tokens a recipe goes on that needs none of them (14.2).
func TestStepAsksForNoMore(t *testing.T) {
	none := with(nil, nil, nil)
	l := of(t, 1, item(1, "add 1 heed skip 3 1 run answer"), held(2, 4, "add 3"), item(3, "fail 2"))
	for range 3 + 1 + 1 + 2 {
		if _, err := l.Step(none.g, none.c, none.t); err != api.OK {
			t.Fatalf("Step: %d", err)
		}
	}
	step(t, l, none, api.Loaded{What: api.LoadEnd, Run: 3})
	stuck(t, l, none, api.ErrOver)
	results(t, l, value(1, 2), value(2, 3), failed(3, api.FailLoad, 2, 3))
	// At a gate and in a sleep just the one that is needed is asked for.
	l = of(t, 1, item(1, "gate 1 sleep 1"))
	step(t, l, with(gate.New(), nil, nil), api.Loaded{What: api.LoadGate, Run: 1, On: 1})
	stuck(t, l, none, api.ErrWait)
	l.Wake()
	step(t, l, with(nil, clock.New(), nil), api.Loaded{What: api.LoadSleep, Run: 1, On: 1, Timer: 1})
	stuck(t, l, none, api.ErrWait)
}

// TestStepEnds: LoadEnd at the last item, however it ended, ahead of LoadSkip and LoadRun; and behind that ErrOver, ahead of all else (14.2).
func TestStepEnds(t *testing.T) {
	for _, c := range []struct {
		text   string
		token  int
		did    int
		result api.Result
	}{
		{"", 0, 0, value(9, 0)}, {"add 4", 1, 1, value(9, 4)}, {"add 4 answer add 5", 1, 1, value(9, 4)}, {"fail -8", 0, 0, failed(9, api.FailLoad, -8, 9)},
		{"panic 6", 0, 0, failed(9, api.FailPanic, 6, 9)}, {"add 1", 2, 0, failed(9, api.FailAbort, 0, 9)}, {"", 2, 0, failed(9, api.FailAbort, 0, 9)},
	} {
		for _, ahead := range []int{0, 1, 3} {
			a := fresh()
			a.t.Cancel(2)
			l := of(t, 1, append(row(ahead), held(9, c.token, c.text))...)
			var want []api.Result
			for i := range ahead {
				step(t, l, a, api.Loaded{What: api.LoadStep, Run: i + 1})
				step(t, l, a, api.Loaded{What: api.LoadRun, Run: i + 1})
				want = append(want, value(i+1, int64(i)))
			}
			for range c.did {
				step(t, l, a, api.Loaded{What: api.LoadStep, Run: 9})
			}
			if l.Over() || l.At() != ahead {
				t.Fatalf("ahead of its end: %s", told(l))
			}
			step(t, l, a, api.Loaded{What: api.LoadEnd, Run: 9})
			if c.result.Outcome.Fail.Kind == api.FailPanic {
				for i := range want {
					want[i].Outcome = c.result.Outcome
				}
			}
			results(t, l, append(want, c.result)...)
			stuck(t, l, a, api.ErrOver)
			stuck(t, l, with(nil, nil, nil), api.ErrOver)
		}
	}
}

// TestStepPanics: at the first, a middle and the last item it ends the load at once, and each run has its failure: those that ended, were skipped and did not begin (14.2).
func TestStepPanics(t *testing.T) {
	for place := range 5 {
		for _, code := range []int{0, 9, -1, math.MaxInt, math.MinInt} {
			a := fresh()
			a.t.Cancel(2)
			a.g.Open(1)
			texts := []string{"add 3", "fail 4", "add 1", "run answer", "gate 1 add 2"}
			var items []api.Item
			var want []api.Result
			for i, text := range texts {
				made := held(2*i+1, 1, text)
				if i == 2 {
					made.Token = 2
				}
				if i == place {
					made = item(2*i+1, fmt.Sprintf("add 7 panic %d answer", code))
				}
				items = append(items, made)
				want = append(want, failed(2*i+1, api.FailPanic, code, 2*place+1))
			}
			l := of(t, 1, items...)
			for l.At() < place {
				l.Step(a.g, a.c, a.t)
			}
			step(t, l, a, api.Loaded{What: api.LoadStep, Run: 2*place + 1})
			if l.Over() || len(l.Results()) != 0 || l.At() != place {
				t.Fatalf("ahead of a panic: %s", told(l))
			}
			step(t, l, a, api.Loaded{What: api.LoadEnd, Run: 2*place + 1})
			results(t, l, want...)
			stuck(t, l, a, api.ErrOver)
		}
	}
}

// TestStepPanicsWhereSkipped: a panic that is not reached is none (14.2).
func TestStepPanicsWhereSkipped(t *testing.T) {
	a := fresh()
	a.t.Cancel(2)
	l := of(t, 1, item(1, "skip 0 1 panic 1"), item(2, "answer panic 2"), held(3, 2, "panic 3"), held(4, 3, "add 1 heed panic 4"), item(5, "fail 5 panic 5"))
	for l.At() < 3 {
		l.Step(a.g, a.c, a.t)
	}
	step(t, l, a, api.Loaded{What: api.LoadStep, Run: 4})
	a.t.Cancel(3)
	step(t, l, a, api.Loaded{What: api.LoadRun, Run: 4})
	step(t, l, a, api.Loaded{What: api.LoadEnd, Run: 5})
	results(t, l, value(1, 0), value(2, 0), failed(3, api.FailAbort, 0, 3), failed(4, api.FailAbort, 0, 4), failed(5, api.FailLoad, 5, 5))
}

// TestStepFull: a load of as many items as may be, each of as many steps as may be (14.2, 14.5).
func TestStepFull(t *testing.T) {
	a := fresh()
	full := slices.Repeat([]api.Step{{Op: api.StepAdd, A: 1}}, steps)
	var items []api.Item
	var want []api.Result
	for i := range most {
		made := api.Item{Run: i + 1}
		if i%64 == 63 {
			made.Recipe = full
		}
		items, want = append(items, made), append(want, value(i+1, int64(len(made.Recipe))))
	}
	l := of(t, 1, items...)
	for i, made := range items {
		for range made.Recipe {
			step(t, l, a, api.Loaded{What: api.LoadStep, Run: i + 1})
		}
		what := api.LoadRun
		if i == most-1 {
			what = api.LoadEnd
		}
		step(t, l, a, api.Loaded{What: what, Run: i + 1})
	}
	results(t, l, want...)
}
