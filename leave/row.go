package leave

import "convoy/api"

// The kinds of rows; each chair stands in one row of each kind.
const (
	ofAll = iota
	ofRun
	ofToken
	kinds
)

// chair is a seat that a caller has, and its neighbours in the row of each kind.
type chair struct {
	seat   api.Seat
	ahead  [kinds]*chair // nil of the first
	behind [kinds]*chair // nil of the last
}

// row is chairs of one kind, in the order in which they were sat down on: linked, so that one in the midst is taken out without a walk.
type row struct {
	first *chair
	last  *chair
}

// add lays a chair that stands in no row of the kind behind all others.
func (r *row) add(kind int, c *chair) {
	c.ahead[kind] = r.last
	if r.last == nil {
		r.first = c
	} else {
		r.last.behind[kind] = c
	}
	r.last = c
}

// remove takes out a chair that stands in this row.
func (r *row) remove(kind int, c *chair) {
	ahead, behind := c.ahead[kind], c.behind[kind]
	if ahead == nil {
		r.first = behind
	} else {
		ahead.behind[kind] = behind
	}
	if behind == nil {
		r.last = ahead
	} else {
		behind.ahead[kind] = ahead
	}
}

// seats answers the seats of a row in order.
func (r *row) seats(kind int) []api.Seat {
	var all []api.Seat
	for c := r.first; c != nil; c = c.behind[kind] {
		all = append(all, c.seat)
	}
	return all
}
