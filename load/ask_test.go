package load_test

import (
	"slices"
	"testing"

	"convoy/api"
	"convoy/gate"
	"convoy/load"
)

// wake wakes a load, and holds the answer against an error.
func wake(t *testing.T, l *load.Load, want api.Errno) {
	t.Helper()
	was := told(l)
	if err := l.Wake(); err != want {
		t.Fatalf("Wake of %s: %d, not %d", was, err, want)
	}
	if got := told(l); want != api.OK && got != was {
		t.Fatalf("Wake with the error %d changed %s to %s", want, was, got)
	}
}

// stand is how a load stands, beside its number and runs.
type stand struct {
	at, wait int
	on       int64
	timer    int
	over     bool
}

// is holds a load that has not ended, or has with results, against how it should stand.
func is(t *testing.T, l *load.Load, want stand, results ...api.Result) {
	t.Helper()
	wait, on, waits := l.Waits()
	got := stand{l.At(), wait, on, l.Timer(), l.Over()}
	if got != want || waits != (wait != api.WaitNone) || !slices.Equal(l.Results(), results) {
		t.Fatalf("stands %v, waits %t, results %v, not %v, %v", got, waits, l.Results(), want, results)
	}
	if l.Number() != 6 || !slices.Equal(l.Runs(), []int{2, 5, 7}) {
		t.Fatalf("Number: %d, Runs: %v", l.Number(), l.Runs())
	}
}

// TestAsk: Waits, Timer, At, Number, Runs, Over and Results in each state of a load, and Wake in each (14.3).
func TestAsk(t *testing.T) {
	a := fresh()
	l := of(t, 6, item(2, "add 1 gate 4 add 1"), item(5, "sleep 30 gate 5 sleep 0"), item(7, "fail 1"))
	ask := func(want stand, woken api.Errno) {
		t.Helper()
		is(t, l, want)
		if woken != api.OK {
			wake(t, l, woken)
			is(t, l, want)
		}
	}
	ask(stand{}, api.ErrArg)
	step(t, l, a, api.Loaded{What: api.LoadStep, Run: 2})
	ask(stand{}, api.ErrArg)
	step(t, l, a, api.Loaded{What: api.LoadGate, Run: 2, On: 4})
	ask(stand{wait: api.WaitGate, on: 4}, api.OK)
	wake(t, l, api.OK)
	ask(stand{}, api.ErrArg)
	step(t, l, a, api.Loaded{What: api.LoadStep, Run: 2})
	ask(stand{}, api.ErrArg)
	step(t, l, a, api.Loaded{What: api.LoadRun, Run: 2})
	ask(stand{at: 1}, api.ErrArg)
	step(t, l, a, api.Loaded{What: api.LoadSleep, Run: 5, On: 30, Timer: 1})
	ask(stand{at: 1, wait: api.WaitSleep, on: 30, timer: 1}, api.OK)
	wake(t, l, api.OK)
	ask(stand{at: 1}, api.ErrArg)
	a.g.Open(5)
	a.g.Leave(6)
	step(t, l, a, api.Loaded{What: api.LoadStep, Run: 5})
	ask(stand{at: 1}, api.ErrArg)
	step(t, l, a, api.Loaded{What: api.LoadSleep, Run: 5, On: 0, Timer: 2})
	ask(stand{at: 1, wait: api.WaitSleep, timer: 2}, api.OK)
	wake(t, l, api.OK)
	ask(stand{at: 1}, api.ErrArg)
	step(t, l, a, api.Loaded{What: api.LoadRun, Run: 5})
	ask(stand{at: 2}, api.ErrArg)
	step(t, l, a, api.Loaded{What: api.LoadEnd, Run: 7})
	for range 2 {
		is(t, l, stand{at: 3, over: true}, value(2, 2), value(5, 0), failed(7, api.FailLoad, 1, 7))
		wake(t, l, api.ErrOver)
		stuck(t, l, a, api.ErrOver)
	}
}

// TestAskBehindAPanic: a load that has ended is at no item, however many were left (14.3).
func TestAskBehindAPanic(t *testing.T) {
	for place := range 3 {
		texts := []string{"add 1", "sleep 3", "gate 1"}
		texts[place] = "sleep 4 panic 2"
		a := fresh()
		l := of(t, 6, item(2, texts[0]), item(5, texts[1]), item(7, texts[2]))
		playOut(t, l, a)
		run := []int{2, 5, 7}[place]
		is(t, l, stand{at: 3, over: true}, failed(2, api.FailPanic, 2, run), failed(5, api.FailPanic, 2, run), failed(7, api.FailPanic, 2, run))
		wake(t, l, api.ErrOver)
	}
}

// TestWakeAlone: who is woken is neither taken from its gate nor is its timer stopped, as Wake knows neither (14.3).
func TestWakeAlone(t *testing.T) {
	a := fresh()
	l := of(t, 6, item(2, "gate 1 sleep 9 gate 2"), item(5, ""), item(7, ""))
	step(t, l, a, api.Loaded{What: api.LoadGate, Run: 2, On: 1})
	beside := a.told()
	wake(t, l, api.OK)
	if got := a.told(); got != beside {
		t.Fatalf("Wake changed %s to %s", beside, got)
	}
	step(t, l, a, api.Loaded{What: api.LoadSleep, Run: 2, On: 9, Timer: 1})
	beside = a.told()
	wake(t, l, api.OK)
	if got := a.told(); got != beside {
		t.Fatalf("Wake changed %s to %s", beside, got)
	}
	// The first gates still have it: it can't come to another gate of theirs.
	stuck(t, l, a, api.ErrTwice)
	is(t, l, stand{})
	step(t, l, with(gate.New(), nil, nil), api.Loaded{What: api.LoadGate, Run: 2, On: 2})
	is(t, l, stand{wait: api.WaitGate, on: 2})
}

// TestNil: every call on a nil Load, ahead of all else (14.4).
func TestNil(t *testing.T) {
	var l *load.Load
	for range 2 {
		stuck(t, l, fresh(), api.ErrOver)
		stuck(t, l, with(nil, nil, nil), api.ErrOver)
		wake(t, l, api.ErrOver)
		waits(t, l, 0, 0, 0)
		if l.At() != 0 || l.Number() != 0 || len(l.Runs()) != 0 || !l.Over() || len(l.Results()) != 0 || l.Clone() != nil {
			t.Fatalf("a nil Load: %s, %v", told(l), l.Clone())
		}
	}
}

// TestZero: a load that no call gave does no harm: it has no items, and has ended (R1).
func TestZero(t *testing.T) {
	for _, l := range []*load.Load{new(load.Load), new(load.Load).Clone()} {
		stuck(t, l, fresh(), api.ErrOver)
		wake(t, l, api.ErrOver)
		waits(t, l, 0, 0, 0)
		if l.At() != 0 || l.Number() != 0 || len(l.Runs()) != 0 || !l.Over() || len(l.Results()) != 0 {
			t.Fatalf("a load of no call: %s", told(l))
		}
	}
}
