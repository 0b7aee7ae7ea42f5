package queue

import (
	"container/heap"
	"slices"

	"convoy/api"
	"convoy/tick"
)

// Times is a queue by time; its zero value is empty, and ready to be used.
type Times struct {
	line timeHeap
	puts int // how many items were ever put in: of one tick, the lesser number is ahead
}

// NewTimes answers an empty queue by time (4.2).
func NewTimes() *Times { return &Times{} }

// Put lays item behind those of its tick and of lesser ones (4.2).
func (q *Times) Put(at int64, item int) api.Errno {
	if !tick.Is(at) {
		return api.ErrArg
	}
	if _, there := q.At(item); there {
		return api.ErrThere
	}
	if q == nil || q.Len() >= api.MaxItems {
		return api.ErrMany
	}
	heap.Push(&q.line, slot{at: at, put: q.puts, item: item})
	q.puts++
	return api.OK
}

// Take takes the first one out, if it is due at now (4.2).
func (q *Times) Take(now int64) (int, bool) {
	at, item, ok := q.Next()
	if !ok || at > now {
		return 0, false
	}
	q.takeOut(0)
	return item, true
}

// Next tells the first one and its tick; it stays (4.2).
func (q *Times) Next() (int64, int, bool) {
	if q.Len() == 0 {
		return 0, 0, false
	}
	first := q.line.slots[0]
	return first.at, first.item, true
}

// Due takes out all that are due at now, and tells them in order (4.2).
func (q *Times) Due(now int64) []int {
	var due []int
	for item, ok := q.Take(now); ok; item, ok = q.Take(now) {
		due = append(due, item)
	}
	return due
}

// Drop takes item out, wherever it stands (4.2).
func (q *Times) Drop(item int) bool {
	if q == nil {
		return false
	}
	place, there := q.line.places[item]
	if there {
		q.takeOut(place)
	}
	return there
}

// At tells item's tick (4.2).
func (q *Times) At(item int) (int64, bool) {
	if q == nil {
		return 0, false
	}
	place, there := q.line.places[item]
	if !there {
		return 0, false
	}
	return q.line.slots[place].at, true
}

// Len tells how many items there are (4.2).
func (q *Times) Len() int {
	if q == nil {
		return 0
	}
	return len(q.line.slots)
}

// All tells all items with their ticks, in order (4.2).
func (q *Times) All() []api.Timed {
	if q == nil {
		return nil
	}
	inOrder := slices.Clone(q.line.slots)
	slices.SortFunc(inOrder, compare)
	all := make([]api.Timed, 0, len(inOrder))
	for _, s := range inOrder {
		all = append(all, api.Timed{At: s.at, Item: s.item})
	}
	return all
}

// takeOut takes out what stands at a place of the heap.
func (q *Times) takeOut(place int) {
	gone := heap.Remove(&q.line, place).(slot)
	delete(q.line.places, gone.item)
}
