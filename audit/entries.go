package audit

import (
	"convoy/api"
	"convoy/tick"
)

// entry is an outcome that was kept, and the tick at which it was.
type entry struct {
	outcome api.Outcome
	at      int64
}

// entries is, of each key that has one, its entry.
type entries map[api.Key]entry

func (x entries) see(e api.Event) {
	switch e.Kind {
	case api.EventKeep:
		x[e.Key] = entry{outcome: e.Outcome, at: e.At}
	case api.EventDrop:
		delete(x, e.Key)
	}
}

// Entries tells where more entries are kept than may be, and none goes at once, or one goes that is not there (25.3).
func Entries(l []api.Event, most int) (int, bool) {
	kept := entries{}
	return first(l, func(n int, e api.Event) bool {
		_, had := kept[e.Key]
		kept.see(e)
		switch e.Kind {
		case api.EventKeep:
			return !had && len(kept) > most && !isDrop(l, n+1)
		case api.EventDrop:
			return !had
		}
		return false
	})
}

// isDrop tells whether there is a Drop at a place; behind the last event there is none.
func isDrop(l []api.Event, n int) bool { return n < len(l) && l[n].Kind == api.EventDrop }

// Ages tells where somebody has by a hit, or as a stale value, what is not kept, or not as old as that asks for (25.4).
func Ages(l []api.Event, c api.Config) (int, bool) {
	kept := entries{}
	return first(l, func(_ int, e api.Event) bool {
		kept.see(e)
		was, has := kept[e.Key]
		right := has && e.Outcome == was.outcome
		switch {
		case isJoin(e, api.HowHit):
			return !right || !was.isFresh(e.At, c)
		case isJoin(e, api.HowStale):
			return !right || !was.isStale(e.At, c)
		}
		return false
	})
}

// Keeping tells where a run begins whose key has a fresh value (25.4).
func Keeping(l []api.Event, c api.Config) (int, bool) {
	kept := entries{}
	return first(l, func(_ int, e api.Event) bool {
		kept.see(e)
		was, has := kept[e.Key]
		return e.Kind == api.EventBegin && has && !was.isFailure() && was.isFresh(e.At, c)
	})
}

func (x entry) isFailure() bool { return x.outcome.Fail.Kind != api.FailNone }

func (x entry) isFresh(now int64, c api.Config) bool {
	if x.isFailure() {
		return x.isWithin(now, c.Negative)
	}
	return x.isWithin(now, c.TTL)
}

func (x entry) isStale(now int64, c api.Config) bool {
	return !x.isFailure() && !x.isFresh(now, c) && x.isWithin(now, c.TTL, c.Stale)
}

// isWithin tells what tick.Within does; nothing is within anything by what is no tick or no time, nor ahead of its own tick.
func (x entry) isWithin(now int64, times ...int64) bool {
	within, err := tick.Within(now, x.at, times...)
	return within && err == api.OK
}
