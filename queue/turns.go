// Package queue is layer 4: queues by turn and queues by time (shared/doc/04-queue.md).
package queue

import "convoy/api"

// Turns is a queue by turn; its zero value is empty, and ready to be used.
type Turns struct {
	first, last int // of no meaning while links is empty
	links       map[int]link
}

// link tells an item's neighbours: before has no meaning for the first one, after none for the last one.
type link struct{ before, after int }

// NewTurns answers an empty queue by turn (4.1).
func NewTurns() *Turns { return &Turns{} }

// Put lays item behind all others (4.1).
func (q *Turns) Put(item int) api.Errno {
	if q.Has(item) {
		return api.ErrThere
	}
	if q == nil || q.Len() >= api.MaxItems {
		return api.ErrMany
	}
	q.putLast(item)
	return api.OK
}

// Take takes the first one out (4.1).
func (q *Turns) Take() (int, bool) {
	item, ok := q.Front()
	if ok {
		q.unlink(item)
	}
	return item, ok
}

// Front tells the first one, which stays (4.1).
func (q *Turns) Front() (int, bool) {
	if q.Len() == 0 {
		return 0, false
	}
	return q.first, true
}

// Drop takes item out, wherever it stands (4.1).
func (q *Turns) Drop(item int) bool {
	if !q.Has(item) {
		return false
	}
	q.unlink(item)
	return true
}

// Has tells whether item is in the queue (4.1).
func (q *Turns) Has(item int) bool {
	if q == nil {
		return false
	}
	_, there := q.links[item]
	return there
}

// Back makes item the last one (4.1).
func (q *Turns) Back(item int) bool {
	if !q.Drop(item) {
		return false
	}
	q.putLast(item)
	return true
}

// Len tells how many items there are (4.1).
func (q *Turns) Len() int {
	if q == nil {
		return 0
	}
	return len(q.links)
}

// All tells all items, in order (4.1).
func (q *Turns) All() []int {
	all := make([]int, 0, q.Len())
	item, _ := q.Front()
	for range q.Len() {
		all = append(all, item)
		item = q.links[item].after
	}
	return all
}

// putLast lays an item that is not there behind the last one.
func (q *Turns) putLast(item int) {
	if q.links == nil {
		q.links = map[int]link{}
	}
	if len(q.links) == 0 {
		q.first = item
	} else {
		q.setAfter(q.last, item)
	}
	q.links[item] = link{before: q.last}
	q.last = item
}

// unlink takes an item that is there out, and joins its neighbours.
func (q *Turns) unlink(item int) {
	gone := q.links[item]
	delete(q.links, item)
	if item == q.first {
		q.first = gone.after
	} else {
		q.setAfter(gone.before, gone.after)
	}
	if item == q.last {
		q.last = gone.before
	} else {
		q.setBefore(gone.after, gone.before)
	}
}

func (q *Turns) setAfter(item, after int) {
	l := q.links[item]
	l.after = after
	q.links[item] = l
}

func (q *Turns) setBefore(item, before int) {
	l := q.links[item]
	l.before = before
	q.links[item] = l
}
