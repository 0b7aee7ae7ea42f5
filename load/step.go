package load

import (
	"convoy/api"
	"convoy/clock"
	"convoy/gate"
	"convoy/recipe"
	"convoy/token"
)

// Step does its next thing, and tells what that was (14.2).
func (l *Load) Step(g *gate.Gates, c *clock.Clock, t *token.Tokens) (api.Loaded, api.Errno) {
	if l.Over() {
		return api.Loaded{}, api.ErrOver
	}
	if _, _, waits := l.Waits(); waits {
		return api.Loaded{}, api.ErrWait
	}
	item := l.left[0]
	around := api.Around{Key: item.Key, Run: item.Run, Cancelled: t.Is(item.Token)}
	// No step leads back to the place 0: a recipe that is there has not begun.
	if around.Cancelled && l.state.At == 0 {
		return l.end(api.LoadSkip, aborted(item.Run)), api.OK
	}
	next, outcome, ended, err := recipe.Do(item.Recipe, l.state, around)
	if err != api.OK {
		return api.Loaded{}, err
	}
	if ended {
		return l.end(api.LoadRun, outcome), api.OK
	}
	return l.goOn(next, g, c)
}

// aborted is the outcome of a run that is skipped.
func aborted(run int) api.Outcome {
	return api.Outcome{Fail: api.Fail{Kind: api.FailAbort, Run: run}}
}

// goOn brings the recipe to its next state, and lets the load wait, if that state does.
func (l *Load) goOn(next api.Cook, g *gate.Gates, c *clock.Clock) (api.Loaded, api.Errno) {
	done := api.Loaded{What: api.LoadStep, Run: l.left[0].Run}
	switch next.Wait {
	case api.WaitGate:
		open, err := g.Come(int(next.On), l.number)
		if err != api.OK {
			return api.Loaded{}, err
		}
		if open {
			next.Wait, next.On = api.WaitNone, 0
		} else {
			done.What, done.On = api.LoadGate, next.On
		}
	case api.WaitSleep:
		timer, err := c.In(next.On)
		if err != api.OK {
			return api.Loaded{}, err
		}
		done.What, done.On, done.Timer = api.LoadSleep, next.On, timer
	}
	l.state, l.timer = next, done.Timer
	return done, api.OK
}

// end ends the recipe of the item that it is at, and the load, if that was the last one or panicked.
func (l *Load) end(what int, outcome api.Outcome) api.Loaded {
	done := api.Loaded{What: what, Run: l.left[0].Run}
	l.results[l.At()].Outcome = outcome
	l.left, l.state = l.left[1:], api.Cook{}
	if outcome.Fail.Kind == api.FailPanic {
		l.panics(outcome)
	}
	if l.Over() {
		// Nobody asks for the items of a load that has ended: they need not be kept.
		done.What, l.left = api.LoadEnd, nil
	}
	return done
}

// panics ends each run with the one outcome, also those whose recipes had ended with another.
func (l *Load) panics(outcome api.Outcome) {
	l.left = nil
	for i := range l.results {
		l.results[i].Outcome = outcome
	}
}
