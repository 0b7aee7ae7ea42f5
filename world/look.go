package world

import (
	"slices"

	"convoy/api"
	"convoy/group"
)

// Quiet tells whether nobody is ready and no timer is armed (23.2).
func (w *World) Quiet() bool {
	if w == nil {
		return false
	}
	_, armed := w.clock.Next()
	return w.ready.Len() == 0 && !armed
}

// Turns tells how many turns there were (23.2).
func (w *World) Turns() int {
	if w == nil {
		return 0
	}
	return w.turns
}

// Now tells where the clock stands (23.2).
func (w *World) Now() int64 {
	if w == nil {
		return 0
	}
	return w.clock.Now()
}

// Ready tells who is ready, in order (23.2).
func (w *World) Ready() []int {
	if w == nil {
		return nil
	}
	return w.ready.All()
}

// Told tells the places that were picked, in order (23.2).
func (w *World) Told() []int {
	if w == nil {
		return nil
	}
	return w.ready.Told()
}

// find is a client, nil if there is none of that place.
func (w *World) find(n int) *member {
	if w == nil || n < 0 || n >= len(w.clients) {
		return nil
	}
	return w.clients[n]
}

// Log tells what a client had, in order (23.3).
func (w *World) Log(client int) []api.Got {
	m := w.find(client)
	if m == nil {
		return nil
	}
	return m.Log()
}

// Ended tells whether a client has nothing left to do, and neither waits nor sleeps (23.3).
func (w *World) Ended(client int) bool {
	m := w.find(client)
	if m == nil {
		return false
	}
	_, _, more := m.Next()
	return !more && m.waits == 0 && !m.sleeps
}

// Waits tells the caller for whom a client waits, if it waits for one (23.3).
func (w *World) Waits(client int) (int, bool) {
	m := w.find(client)
	if m == nil {
		return 0, false
	}
	return m.waits, m.waits != 0
}

// Events tells all that happened, in order (23.3).
func (w *World) Events() []api.Event {
	if w == nil {
		return nil
	}
	return slices.Clone(w.events)
}

// Group is the group, itself (23.3).
func (w *World) Group() *group.Group {
	if w == nil {
		return nil
	}
	return w.group
}

// Armed tells the timers that are armed, in the order in which they will ring (23.3).
func (w *World) Armed() []api.Ring {
	if w == nil {
		return nil
	}
	return w.clock.Armed()
}

// Loads tells how each load stands that was sent, in order (23.3).
func (w *World) Loads() []api.Standing {
	if w == nil {
		return nil
	}
	standing := make([]api.Standing, 0, len(w.loads))
	for at, l := range w.loads {
		wait, _, _ := l.Waits()
		standing = append(standing, api.Standing{Task: len(w.clients) + at, Runs: slices.Clone(l.runs), Wait: wait, Ended: l.Over()})
	}
	return standing
}
