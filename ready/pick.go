package ready

import (
	"slices"

	"convoy/api"
	"convoy/tick"
)

// lotStep is what is added to the state of PickLot ahead of each mixing.
const lotStep = 0x9e3779b97f4a7c15

// Pick tells whose turn it is, who is ready no more (22.2).
func (r *Ready) Pick() (int, bool) {
	if r.Len() == 0 {
		return 0, false
	}
	place, state := r.next()
	n := r.line[place]
	r.takeOut(place)
	r.state = state
	r.told = append(r.told, place)
	return n, true
}

// Peek tells who would be picked (22.2).
func (r *Ready) Peek() (int, bool) {
	if r.Len() == 0 {
		return 0, false
	}
	place, _ := r.next()
	return r.line[place], true
}

// next tells the place of the one whose turn it is, and the state behind that turn; somebody is ready.
func (r *Ready) next() (int, uint64) {
	if turn := r.Turns(); turn < len(r.picks) {
		return around(r.picks[turn], r.Len()), r.state
	}
	if r.policy == api.PickLot {
		return draw(r.state, r.Len())
	}
	return r.choose(), r.state
}

// around is a pick modulo n, from 0 on.
func around(pick, n int) int {
	place := pick % n
	if place < 0 {
		place += n
	}
	return place
}

// draw lets a state go on, and tells which of n places it draws, and the state.
func draw(state uint64, n int) (int, uint64) {
	state = tick.Mix(state + lotStep)
	place, _ := tick.Part(state, n)
	return place, state
}

// choose tells the place of the one whom a policy without a state takes.
func (r *Ready) choose() int {
	switch r.policy {
	case api.PickLast:
		return r.Len() - 1
	case api.PickLeast:
		return slices.Index(r.line, slices.Min(r.line))
	case api.PickMost:
		return slices.Index(r.line, slices.Max(r.line))
	}
	return 0
}

// Turns tells how many Picks told somebody (22.2).
func (r *Ready) Turns() int {
	if r == nil {
		return 0
	}
	return len(r.told)
}

// Told tells the places that were picked, in order (22.2).
func (r *Ready) Told() []int {
	if r == nil {
		return nil
	}
	return copied(r.told)
}
