package group

import "convoy/api"

// End ends a run with an outcome, which is kept if it is one to keep, and tells what came of that (16.5).
func (g *Group) End(now int64, run int, o api.Outcome) (api.Done, api.Errno) {
	if err := g.checkTick(now); err != api.OK {
		return api.Done{}, err
	}
	was, _ := g.runs.Run(run)
	told, current, err := g.runs.End(run, o)
	if err != api.OK {
		return api.Done{}, err
	}
	g.now = now
	g.seats.End(run)
	done := api.Done{Run: was, Told: told, Current: current}
	if current && !(was.Refresh && isFailure(o)) {
		done.Kept, done.Gone, _ = g.kept.Keep(now, was.Key, o)
		done.Left = g.release(done.Gone)
	}
	return done, api.OK
}

func isFailure(o api.Outcome) bool { return o.Fail.Kind != api.FailNone }

// release lets the entries of some keys, which went, count no more for the refreshes of these, and answers those that are left by that.
func (g *Group) release(keys []api.Key) []int {
	var left []int
	for _, k := range keys {
		run, _ := g.runs.Current(k)
		// Of a run that is no refresh nothing is released.
		if gone, _ := g.runs.Release(run); gone.Cancelled {
			left = append(left, run)
		}
	}
	return left
}
