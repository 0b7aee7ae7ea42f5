package recipe

import (
	"math/bits"

	"convoy/api"
	"convoy/key"
)

// Do does the next step of a recipe: the state behind it, or the outcome and true, if the loader ended by it (8.2).
func Do(l []api.Step, c api.Cook, x api.Around) (api.Cook, api.Outcome, bool, api.Errno) {
	if err := ready(l, c); err != api.OK {
		return api.Cook{}, api.Outcome{}, false, err
	}
	next, outcome, over := do(l, c, x)
	return next, outcome, over, api.OK
}

// On does a recipe's steps until it waits or ends (8.2).
func On(l []api.Step, c api.Cook, x api.Around) (api.Cook, api.Outcome, bool, api.Errno) {
	if err := ready(l, c); err != api.OK {
		return api.Cook{}, api.Outcome{}, false, err
	}
	next, outcome, over := on(l, c, x)
	return next, outcome, over, api.OK
}

// Alone tells what a recipe ends with if nothing lets it wait, and how many ticks it slept, at most MaxTime (8.3).
func Alone(l []api.Step, x api.Around) (api.Outcome, int64, api.Errno) {
	var c api.Cook
	if err := ready(l, c); err != api.OK {
		return api.Outcome{}, 0, err
	}
	var slept int64
	for {
		next, outcome, over := on(l, c, x)
		if over {
			return outcome, slept, api.OK
		}
		if next.Wait == api.WaitSleep {
			// Held against the room that is left, as the sum may wrap.
			slept += min(next.On, api.MaxTime-slept)
		}
		c = api.Cook{At: next.At, Number: next.Number}
	}
}

// ready tells whether a recipe can go on from a state.
func ready(l []api.Step, c api.Cook) api.Errno {
	// Too many steps are one more way in which a recipe may not be: the answer is the same.
	if _, err := Check(l); err != api.OK {
		return api.ErrStep
	}
	if c.At < 0 || c.At > len(l) || c.Wait != api.WaitNone {
		return api.ErrArg
	}
	return api.OK
}

// on is On from a state that is ready; each step goes on by one place at least, so it ends.
func on(l []api.Step, c api.Cook, x api.Around) (api.Cook, api.Outcome, bool) {
	for {
		next, outcome, over := do(l, c, x)
		if over || next.Wait != api.WaitNone {
			return next, outcome, over
		}
		c = next
	}
}

// do is Do from a state that is ready.
func do(l []api.Step, c api.Cook, x api.Around) (api.Cook, api.Outcome, bool) {
	if c.At == len(l) {
		return answers(c.Number)
	}
	step := l[c.At]
	next := api.Cook{At: c.At + 1, Number: c.Number}
	switch step.Op {
	case api.StepAdd:
		next.Number += step.A
	case api.StepShift:
		next.Number = shifted(c.Number, step.A)
	case api.StepKey:
		next.Number ^= int64(key.Hash(x.Key))
	case api.StepRun:
		next.Number += int64(x.Run)
	case api.StepTurn:
		next.Number = int64(bits.RotateLeft64(uint64(c.Number), int(step.A)))
	case api.StepGate:
		next.Wait, next.On = api.WaitGate, step.A
	case api.StepSleep:
		next.Wait, next.On = api.WaitSleep, step.A
	case api.StepHeed:
		if x.Cancelled {
			return fails(api.FailAbort, 0, x)
		}
	case api.StepSkip:
		if skips(step.A, c.Number, x) {
			// Behind the end there is no place to go on from.
			next.At = min(next.At+int(step.B), len(l))
		}
	case api.StepAnswer:
		return answers(c.Number)
	case api.StepFail:
		return fails(api.FailLoad, step.A, x)
	case api.StepPanic:
		return fails(api.FailPanic, step.A, x)
	}
	return next, api.Outcome{}, false
}

// answers ends with a value.
func answers(number int64) (api.Cook, api.Outcome, bool) {
	return api.Cook{}, api.Outcome{Value: number}, true
}

// fails ends with a failure of the run.
func fails(kind int, code int64, x api.Around) (api.Cook, api.Outcome, bool) {
	return api.Cook{}, api.Outcome{Fail: api.Fail{Kind: kind, Code: int(code), Run: x.Run}}, true
}

// shifted is a number, shifted to the left, or below 0 to the right with its sign drawn in.
func shifted(number, by int64) int64 {
	if by < 0 {
		return number >> -by
	}
	return number << by
}

// skips tells whether what a skip asks for holds.
func skips(test, number int64, x api.Around) bool {
	switch test {
	case 0:
		return number == 0
	case 1:
		return number < 0
	case 2:
		return number&1 == 1
	}
	return x.Cancelled
}
