package audit

import "convoy/api"

// set is some numbers.
type set map[int]struct{}

func (s set) add(n int) { s[n] = struct{}{} }

func (s set) has(n int) bool {
	_, is := s[n]
	return is
}

// waiters is, of each run, the callers who wait for it, be it in progress or not.
type waiters map[int]set

func (w waiters) see(e api.Event) {
	switch {
	case isJoin(e, api.HowJoined), isJoin(e, api.HowLed):
		if w[e.Run] == nil {
			w[e.Run] = set{}
		}
		w[e.Run].add(e.Caller)
	case e.Kind == api.EventTell, e.Kind == api.EventLeave:
		delete(w[e.Run], e.Caller)
	}
}

// Same tells where a caller is told what its run did not end with, or though it was told or left, or leaves what it does not wait for (25.2).
func Same(l []api.Event) (int, bool) {
	waiting, ends, gone := waiters{}, map[int]api.Outcome{}, set{}
	return first(l, func(_ int, e api.Event) bool {
		broken := false
		switch e.Kind {
		case api.EventEnd:
			ends[e.Run] = e.Outcome
		case api.EventTell:
			outcome, ended := ends[e.Run]
			broken = !ended || e.Outcome != outcome || gone.has(e.Caller)
			gone.add(e.Caller)
		case api.EventLeave:
			broken = !waiting[e.Run].has(e.Caller)
			gone.add(e.Caller)
		}
		waiting.see(e)
		return broken
	})
}

// Tokens tells where a token is cancelled that may not be, or somebody joins a run whose token is, or that is not in progress (25.2).
func Tokens(l []api.Event) (int, bool) {
	runs, waiting, cancelled := progress{}, waiters{}, set{}
	return first(l, func(_ int, e api.Event) bool {
		over := !runs.has(e.Run) || cancelled.has(e.Run)
		runs.see(e)
		waiting.see(e)
		switch {
		case e.Kind == api.EventCancel:
			cancelled.add(e.Run)
			return over || len(waiting[e.Run]) > 0
		case isJoin(e, api.HowJoined):
			return over
		}
		return false
	})
}
