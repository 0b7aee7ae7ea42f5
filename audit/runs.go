package audit

import "convoy/api"

// term is a key and one of its generations.
type term struct {
	key        api.Key
	generation int
}

func termOf(e api.Event) term { return term{key: e.Key, generation: e.Generation} }

// progress is the runs in progress by their numbers, each with its key and generation.
type progress map[int]term

func (p progress) see(e api.Event) {
	switch e.Kind {
	case api.EventBegin:
		p[e.Run] = termOf(e)
	case api.EventEnd:
		delete(p, e.Run)
	}
}

func (p progress) has(run int) bool {
	_, is := p[run]
	return is
}

// One tells where a run begins whose number has been passed, or beside another one of its key and generation (25.1).
func One(l []api.Event) (int, bool) {
	runs, taken := progress{}, map[term]struct{}{}
	last, some := 0, false
	return first(l, func(_ int, e api.Event) bool {
		switch e.Kind {
		case api.EventBegin:
			_, is := taken[termOf(e)]
			// Of the first Begin no number is asked: there is none ahead that it would have to be above.
			if is || some && e.Run <= last {
				return true
			}
			taken[termOf(e)] = struct{}{}
			last, some = e.Run, true
		case api.EventEnd:
			// A run ends with the key and the generation of its Begin, whatever its End tells.
			if t, is := runs[e.Run]; is {
				delete(taken, t)
			}
		}
		runs.see(e)
		return false
	})
}

// Generations tells where a run begins in another generation than its key's, or one goes on otherwise than by one (25.1).
func Generations(l []api.Event) (int, bool) {
	generations := map[api.Key]int{}
	return first(l, func(_ int, e api.Event) bool {
		was := generations[e.Key]
		switch e.Kind {
		case api.EventBegin:
			return e.Generation != was
		case api.EventAbandon, api.EventForget:
			generations[e.Key] = e.Generation
			return e.Generation != was+1
		}
		return false
	})
}

// Flight tells where more runs are in progress than may be, or somebody is told busy beside fewer or more (25.3).
func Flight(l []api.Event, most int) (int, bool) {
	runs := progress{}
	return first(l, func(_ int, e api.Event) bool {
		runs.see(e)
		switch {
		case e.Kind == api.EventBegin:
			return len(runs) > most
		case isJoin(e, api.HowBusy):
			return len(runs) != most
		}
		return false
	})
}
