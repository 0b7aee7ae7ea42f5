package queue_test

import (
	"math"
	"testing"

	"convoy/api"
	"convoy/queue"
)

// TestNilTurns: 4.3.
func TestNilTurns(t *testing.T) {
	var q *queue.Turns
	for range 2 {
		for _, item := range odd {
			if err := q.Put(item); err != api.ErrMany {
				t.Errorf("Put(%d): %d", item, err)
			}
			if q.Drop(item) || q.Has(item) || q.Back(item) {
				t.Errorf("Drop, Has or Back of %d: true", item)
			}
		}
		if item, ok := q.Take(); item != 0 || ok {
			t.Errorf("Take: %d, %t", item, ok)
		}
		sameTurns(t, q)
	}
}

// TestNilTimes: 4.3.
func TestNilTimes(t *testing.T) {
	var q *queue.Times
	for range 2 {
		for _, item := range odd {
			for _, at := range []int64{0, 1, last - 1, last} {
				if err := q.Put(at, item); err != api.ErrMany {
					t.Errorf("Put(%d, %d): %d", at, item, err)
				}
			}
			for _, at := range noTicks {
				if err := q.Put(at, item); err != api.ErrArg {
					t.Errorf("Put(%d, %d): %d", at, item, err)
				}
			}
			if q.Drop(item) {
				t.Errorf("Drop(%d): true", item)
			}
		}
		for _, now := range []int64{math.MinInt64, -1, 0, last, math.MaxInt64} {
			if item, ok := q.Take(now); item != 0 || ok {
				t.Errorf("Take(%d): %d, %t", now, item, ok)
			}
			if l := q.Due(now); len(l) != 0 {
				t.Errorf("Due(%d): %d", now, l)
			}
		}
		sameTimes(t, q)
	}
}
