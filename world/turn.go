package world

import "convoy/api"

// Turn does a turn: a step of whoever is picked, or, if nobody is ready, a leap of the clock; and tells whether there was one (23.2).
func (w *World) Turn() bool {
	if w == nil || !w.step() && !w.leap() {
		return false
	}
	w.turns++
	sent, _ := w.group.Send(w.Now())
	w.send(sent)
	return true
}

// Go does some turns, or those until it is quiet, and tells how many there were (23.2).
func (w *World) Go(turns int) int {
	done := 0
	for done < turns && w.Turn() {
		done++
	}
	return done
}

// step lets the one who is picked do a step, if one is ready.
func (w *World) step() bool {
	task, picked := w.ready.Pick()
	switch {
	case !picked:
		return false
	case task < len(w.clients):
		w.stepClient(task)
	default:
		w.stepLoad(task)
	}
	return true
}

// leap lets the clock go on to the next timer, if one is armed; who sleeps by one that rings goes on.
func (w *World) leap() bool {
	rings, armed := w.clock.Leap()
	for _, ring := range rings {
		// The one of a load that gathers wakes nobody.
		if task, sleeps := w.asleep[ring.Timer]; sleeps {
			delete(w.asleep, ring.Timer)
			w.wake(task)
		}
	}
	return armed
}

// sleep lets a task sleep until a timer rings.
func (w *World) sleep(task, timer int) { w.asleep[timer] = task }

// wake lets a task go on that slept, or waited at a gate.
func (w *World) wake(task int) {
	if task < len(w.clients) {
		w.clients[task].sleeps = false
		w.rouse(task)
		return
	}
	w.loadOf(task).Wake()
	w.ready.Wake(task)
}

// happens keeps an event of now.
func (w *World) happens(e api.Event) {
	e.At = w.Now()
	w.events = append(w.events, e)
}
