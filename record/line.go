package record

import (
	"maps"
	"slices"
)

// line is callers, in the order in which they came.
type line struct {
	callers []int       // none in the place of one that went, so that the others keep theirs
	places  map[int]int // of each caller that is there
}

// none is no caller.
const none = 0

// add puts a caller that is not there behind the others.
func (l *line) add(caller int) {
	if l.places == nil {
		l.places = map[int]int{}
	}
	l.places[caller] = len(l.callers)
	l.callers = append(l.callers, caller)
}

// remove takes a caller that is there out.
func (l *line) remove(caller int) {
	l.callers[l.places[caller]] = none
	delete(l.places, caller)
	// Closed only when most places are empty: all that go cost no more than those that came, and little room is lost.
	if len(l.callers) > 2*l.count() {
		l.closeUp()
	}
}

// closeUp lets the callers take the places of those that went.
func (l *line) closeUp() {
	l.callers = l.all()
	for place, caller := range l.callers {
		l.places[caller] = place
	}
}

func (l *line) has(caller int) bool {
	_, there := l.places[caller]
	return there
}

func (l *line) count() int { return len(l.places) }

// all answers the callers in new memory.
func (l *line) all() []int {
	all := make([]int, 0, l.count())
	for _, caller := range l.callers {
		if caller != none {
			all = append(all, caller)
		}
	}
	return all
}

func (l *line) clone() line {
	return line{callers: slices.Clone(l.callers), places: maps.Clone(l.places)}
}
