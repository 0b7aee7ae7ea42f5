package load_test

import (
	"fmt"
	"math/rand"
	"slices"
	"testing"

	"convoy/api"
	"convoy/load"
	"convoy/recipe"
)

// plain is a load as the chapter tells it: each item with all that is known of it, and nothing worked out of anything else.
type plain struct {
	number int
	items  []one
	at     int
	over   bool
	wait   int
	on     int64
	timer  int
}

// one is an item of a plain load.
type one struct {
	api.Item
	begun   bool
	state   api.Cook
	outcome api.Outcome
}

func plainOf(number int, items []api.Item) *plain {
	p := &plain{number: number}
	for _, i := range items {
		p.items = append(p.items, one{Item: i})
	}
	return p
}

func (p *plain) clone() *plain {
	twin := *p
	twin.items = slices.Clone(p.items)
	return &twin
}

// ended ends the item that it is at.
func (p *plain) ended(what int, outcome api.Outcome) (api.Loaded, api.Errno) {
	done := api.Loaded{What: what, Run: p.items[p.at].Run}
	p.items[p.at].outcome = outcome
	p.at++
	if outcome.Fail.Kind == api.FailPanic {
		for i := range p.items {
			p.items[i].outcome = outcome
		}
		p.at = len(p.items)
	}
	if p.at == len(p.items) {
		p.over = true
		done.What = api.LoadEnd
	}
	return done, api.OK
}

// step does a step with gates, a clock and tokens of its own.
func (p *plain) step(a around) (api.Loaded, api.Errno) {
	if p.over {
		return api.Loaded{}, api.ErrOver
	}
	if p.wait != 0 {
		return api.Loaded{}, api.ErrWait
	}
	here := &p.items[p.at]
	cancelled := here.Token != 0 && slices.Contains(gone(a), here.Token)
	if !here.begun && cancelled {
		return p.ended(api.LoadSkip, api.Outcome{Fail: api.Fail{Kind: api.FailAbort, Run: here.Run}})
	}
	state, outcome, ended, _ := recipe.Do(here.Recipe, here.state, api.Around{Key: here.Key, Run: here.Run, Cancelled: cancelled})
	if ended {
		return p.ended(api.LoadRun, outcome)
	}
	done, err := p.waiting(a, state)
	if err == api.OK {
		here.begun = true
		here.state = api.Cook{At: state.At, Number: state.Number}
	}
	return done, err
}

// waiting lets it wait for what a state waits for.
func (p *plain) waiting(a around, state api.Cook) (api.Loaded, api.Errno) {
	run := p.items[p.at].Run
	if state.Wait == api.WaitGate {
		open, err := a.g.Come(int(state.On), p.number)
		if err != api.OK {
			return api.Loaded{}, err
		}
		if !open {
			p.wait, p.on = api.WaitGate, state.On
			return api.Loaded{What: api.LoadGate, Run: run, On: state.On}, api.OK
		}
	}
	if state.Wait == api.WaitSleep {
		timer, err := a.c.In(state.On)
		if err != api.OK {
			return api.Loaded{}, err
		}
		p.wait, p.on, p.timer = api.WaitSleep, state.On, timer
		return api.Loaded{What: api.LoadSleep, Run: run, On: state.On, Timer: timer}, api.OK
	}
	return api.Loaded{What: api.LoadStep, Run: run}, api.OK
}

// gone is all cancelled tokens.
func gone(a around) []int {
	var l []int
	for n := 1; n <= a.t.Len(); n++ {
		if !slices.Contains(a.t.Live(), n) {
			l = append(l, n)
		}
	}
	return l
}

func (p *plain) wake() api.Errno {
	if p.over {
		return api.ErrOver
	}
	if p.wait == 0 {
		return api.ErrArg
	}
	p.wait, p.on, p.timer = 0, 0, 0
	return api.OK
}

// told is what told says of a load.
func (p *plain) told() string {
	var runs []int
	var results []api.Result
	for _, i := range p.items {
		runs = append(runs, i.Run)
		if p.over {
			results = append(results, api.Result{Run: i.Run, Outcome: i.outcome})
		}
	}
	return fmt.Sprint("number ", p.number, " at ", p.at, " waits ", p.wait, p.on, p.wait != 0, " timer ", p.timer, " runs ", runs, " over ", p.over, " results ", results)
}

// free is steps that never wait; waiting is these, and some that do. A panic is put in behind them, as it is the rarer end.
var (
	free    = []string{"add 1", "add -1", "run", "key", "shift 1", "turn 9", "heed", "skip 0 1", "skip 1 2", "skip 2 1", "skip 3 1", "answer", "fail 5", "add 7", "add 2", "run"}
	waiting = append(slices.Clone(free), "gate 1", "gate 2", "gate 1", "gate 3", "sleep 0", "sleep 2", "sleep 5", "gate 2")
)

// someItems is items by lot, of steps that are told.
func someItems(lot *rand.Rand, from []string) []api.Item {
	var items []api.Item
	run := 0
	for range 1 + lot.Intn(6) {
		run += 1 + lot.Intn(3)
		text := ""
		for range lot.Intn(8) {
			text += " " + from[lot.Intn(len(from))]
		}
		if lot.Intn(12) == 0 {
			text += fmt.Sprint(" panic ", lot.Intn(3))
		}
		if text != "" {
			text = text[1:]
		}
		items = append(items, held(run, lot.Intn(11), text))
	}
	return items
}

// pair is a load and a plain one, each with gates, a clock and tokens of its own.
type pair struct {
	l    *load.Load
	p    *plain
	a, b around
}

func (x pair) clone() pair { return pair{x.l.Clone(), x.p.clone(), x.a.clone(), x.b.clone()} }

// both does something to the gates, the clock and the tokens of both, by lot.
func (x pair) both(lot *rand.Rand) {
	what, n := lot.Intn(7), 1+lot.Intn(3)
	for _, a := range []around{x.a, x.b} {
		switch what {
		case 0:
			a.g.Open(n)
		case 1, 2:
			a.g.Shut(n)
		case 3:
			a.g.Pass(n, 1)
		case 4:
			a.g.Leave(x.p.number)
		case 5:
			a.c.Advance(int64(n))
		case 6:
			a.t.Cancel(3 * n)
		}
	}
}

// step does something by lot to both, and holds what they answer and what they are against one another.
func (x pair) step(t *testing.T, lot *rand.Rand) {
	t.Helper()
	what := lot.Intn(20)
	switch {
	case what < 12:
		a, b := x.a, x.b
		if what == 0 {
			a.g, b.g = nil, nil
		}
		if what == 1 {
			a.c, b.c = nil, nil
		}
		if what == 2 {
			a.t, b.t = nil, nil
		}
		got, err := x.l.Step(a.g, a.c, a.t)
		if want, wrong := x.p.step(b); got != want || err != wrong {
			t.Fatalf("Step: %v, %d, not %v, %d", got, err, want, wrong)
		}
	case what < 15:
		x.a.g.Leave(x.l.Number())
		x.b.g.Leave(x.l.Number())
		fallthrough
	case what < 16:
		if err, want := x.l.Wake(), x.p.wake(); err != want {
			t.Fatalf("Wake: %d, not %d", err, want)
		}
	default:
		x.both(lot)
	}
	if got, want := told(x.l), x.p.told(); got != want {
		t.Fatalf("it is %s, not %s", got, want)
	}
	if got, want := x.a.told(), x.b.told(); got != want {
		t.Fatalf("beside it is %s, not %s", got, want)
	}
}

// TestLikePlain plays steps by lot on loads, their clones and plain ones (14.1 to 14.3).
func TestLikePlain(t *testing.T) {
	lot := rand.New(rand.NewSource(14))
	ended := 0
	for range 400 {
		items := someItems(lot, waiting)
		number := 1 + lot.Intn(5)
		pairs := []pair{{of(t, number, items...), plainOf(number, items), fresh(), fresh()}}
		for range 100 {
			i := lot.Intn(len(pairs))
			pairs[i].step(t, lot)
			if len(pairs) < 3 && lot.Intn(30) == 0 {
				pairs = append(pairs, pairs[i].clone())
			}
		}
		for _, x := range pairs {
			if x.p.over {
				ended++
			}
			if got, want := told(x.l), x.p.told(); got != want {
				t.Fatalf("it is %s, not %s", got, want)
			}
		}
	}
	if ended < 300 {
		t.Fatalf("just %d loads ended: the lot is a poor one", ended)
	}
}

// TestEndsInTime: without gates and sleeps it ends within as many steps as all recipes have, and one for each, and each run has one result, in order (14.5).
func TestEndsInTime(t *testing.T) {
	lot := rand.New(rand.NewSource(145))
	for range 2000 {
		a, items := fresh(), someItems(lot, free)
		a.t.Cancel(3)
		l := of(t, 1, items...)
		bound, did := len(items), 0
		var runs, seen []int
		for _, i := range items {
			bound += len(i.Recipe)
			runs = append(runs, i.Run)
		}
		for !l.Over() {
			if _, err := l.Step(a.g, a.c, a.t); err != api.OK {
				t.Fatalf("Step: %d", err)
			}
			did++
			if lot.Intn(20) == 0 {
				a.t.Cancel(1 + lot.Intn(9))
			}
		}
		if did > bound {
			t.Fatalf("%d steps, not %d at most", did, bound)
		}
		for _, r := range l.Results() {
			seen = append(seen, r.Run)
		}
		if !slices.Equal(seen, runs) {
			t.Fatalf("results of the runs %v, not %v", seen, runs)
		}
	}
	// The bound is met where no recipe ends ahead of its end.
	a, l := fresh(), of(t, 1, item(1, "add 1 add 1"), item(2, ""), item(3, "run key turn 1"))
	for range 2 + 0 + 3 + 3 {
		if l.Over() {
			t.Fatal("it ended too early")
		}
		l.Step(a.g, a.c, a.t)
	}
	if !l.Over() {
		t.Fatal("it did not end")
	}
}

// TestPanicIsOne: behind a panic all have the one and same failure, that of a run of the load; else a run that failed has its own (14.5).
func TestPanicIsOne(t *testing.T) {
	lot := rand.New(rand.NewSource(1405))
	panics := 0
	for range 2000 {
		a, items := fresh(), someItems(lot, waiting)
		l := of(t, 1, items...)
		playOut(t, l, a)
		all := l.Results()
		first := all[0].Outcome.Fail
		panicked := slices.ContainsFunc(all, func(r api.Result) bool { return r.Outcome.Fail.Kind == api.FailPanic })
		if panicked {
			panics++
		}
		for _, r := range all {
			f := r.Outcome.Fail
			if panicked && (f != first || r.Outcome.Value != 0 || !slices.Contains(l.Runs(), f.Run)) {
				t.Fatalf("behind a panic: %v", all)
			}
			if !panicked && f.Kind != api.FailNone && f.Run != r.Run {
				t.Fatalf("a failure of another run: %v", all)
			}
		}
	}
	if panics < 100 {
		t.Fatalf("just %d panics: the lot is a poor one", panics)
	}
}
