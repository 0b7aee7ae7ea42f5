package trace

import (
	"slices"

	"convoy/api"
	"convoy/key"
)

// where tells the places of the events of which is holds, rising.
func (t *Trace) where(is func(e api.Event) bool) []int {
	var places []int
	t.each(func(n int, e api.Event) bool {
		if is(e) {
			places = append(places, n)
		}
		return true
	})
	return places
}

// OfKind tells the places of the events of some kinds (24.3).
func (t *Trace) OfKind(kinds ...int) []int {
	// Not searched for each event, as kinds may be as many as they like.
	var wanted [api.EventLeave + 1]bool
	for _, kind := range kinds {
		if isKind(kind) {
			wanted[kind] = true
		}
	}
	return t.where(func(e api.Event) bool { return wanted[e.Kind] })
}

// OfRun tells the places of the events with a run; 0 is none (24.3).
func (t *Trace) OfRun(run int) []int {
	return t.where(func(e api.Event) bool { return run != 0 && e.Run == run })
}

// OfKey tells the places of the events that name a key; the zero key is one of those that may be named (24.3).
func (t *Trace) OfKey(k api.Key) []int {
	return t.where(func(e api.Event) bool { return namesKey(e) && e.Key == k })
}

// OfClient tells the places of the events with a client; 0 is none (24.3).
func (t *Trace) OfClient(client int) []int {
	return t.where(func(e api.Event) bool { return client != 0 && e.Client == client })
}

// Between tells the places of the events from a tick on, up to one, both with them (24.3).
func (t *Trace) Between(from, to int64) []int {
	return t.where(func(e api.Event) bool { return from <= e.At && e.At <= to })
}

// Runs tells the runs of all events, each once, rising (24.3).
func (t *Trace) Runs() []int {
	var runs []int
	t.each(func(_ int, e api.Event) bool {
		if e.Run != 0 {
			runs = append(runs, e.Run)
		}
		return true
	})
	slices.Sort(runs)
	return slices.Compact(runs)
}

// Keys tells the keys that are named, each once, in order (24.3).
func (t *Trace) Keys() []api.Key {
	var keys []api.Key
	t.each(func(_ int, e api.Event) bool {
		if namesKey(e) {
			keys = append(keys, e.Key)
		}
		return true
	})
	return key.Sorted(key.Unlike(keys...))
}
