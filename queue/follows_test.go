package queue_test

import (
	"math/rand"
	"slices"
	"testing"

	"convoy/api"
	"convoy/queue"
)

// TestExamples: the chapter's own.
func TestExamples(t *testing.T) {
	q := queue.NewTurns()
	if q.Put(5) != api.OK || q.Put(3) != api.OK || q.Put(5) != api.ErrThere || !q.Back(5) {
		t.Error("Put 5, 3, 5, Back(5)")
	}
	if item, ok := q.Take(); item != 3 || !ok {
		t.Errorf("Take: %d, %t", item, ok)
	}
	w := times(t, timed(7, 1), timed(3, 2), timed(7, 3))
	if l := w.Due(6); !slices.Equal(l, []int{2}) {
		t.Errorf("Due(6): %d", l)
	}
	if at, item, ok := w.Next(); at != 7 || item != 1 || !ok {
		t.Errorf("Next: %d, %d, %t", at, item, ok)
	}
	if err := w.Put(-1, 9); err != api.ErrArg {
		t.Errorf("Put(-1, 9): %d", err)
	}
}

// TestTurnsComeOutOnce: what is put in comes out once, in order (4.4).
func TestTurnsComeOutOnce(t *testing.T) {
	items := rand.New(rand.NewSource(44)).Perm(1000)
	q := turns(t, items...)
	var out []int
	for item, ok := q.Take(); ok; item, ok = q.Take() {
		out = append(out, item)
	}
	if !slices.Equal(out, items) {
		t.Errorf("put in %d, out came %d", items, out)
	}
}

// TestTimesComeOutOnce: what is put in comes out once, in order, and Due tells what Take tells one by one (4.4).
func TestTimesComeOutOnce(t *testing.T) {
	lot := rand.New(rand.NewSource(44))
	for range 50 {
		items := lot.Perm(200)
		a, b := queue.NewTimes(), queue.NewTimes()
		var want []api.Timed
		for _, item := range items {
			at := lot.Int63n(20)
			if a.Put(at, item) != api.OK || b.Put(at, item) != api.OK {
				t.Fatalf("Put(%d, %d)", at, item)
			}
			want = append(want, timed(at, item))
		}
		slices.SortStableFunc(want, func(x, y api.Timed) int { return int(x.At - y.At) })
		var out []int
		for now := int64(-1); now < 22; now += 1 + lot.Int63n(3) {
			var taken []int
			for item, ok := a.Take(now); ok; item, ok = a.Take(now) {
				taken = append(taken, item)
			}
			if due := b.Due(now); !slices.Equal(due, taken) {
				t.Fatalf("Due(%d): %d, but Take one by one: %d", now, due, taken)
			}
			if !slices.Equal(a.All(), b.All()) {
				t.Fatalf("behind Take %v, behind Due %v", a.All(), b.All())
			}
			out = append(out, taken...)
		}
		out = append(out, a.Due(last)...)
		if !slices.EqualFunc(out, want, func(item int, i api.Timed) bool { return item == i.Item }) {
			t.Fatalf("put in %v, out came %d", want, out)
		}
	}
}

// TestDroppedStandsBehind: an item that is dropped and put in again stands behind those of its tick (4.4).
func TestDroppedStandsBehind(t *testing.T) {
	for n := 1; n < 20; n++ {
		for again := range n {
			q := queue.NewTimes()
			q.Put(4, -1)
			q.Put(6, -2)
			var want []int
			for item := range n {
				q.Put(5, item)
				if item != again {
					want = append(want, item)
				}
			}
			if !q.Drop(again) || q.Put(5, again) != api.OK {
				t.Fatalf("Drop and Put of %d", again)
			}
			want = slices.Concat([]int{-1}, want, []int{again, -2})
			if got := q.Due(6); !slices.Equal(got, want) {
				t.Errorf("%d of %d dropped and put in again: %d, not %d", again, n, got, want)
			}
		}
	}
}

// TestTakenStandsBehind: so does one that was taken out, or told by Due.
func TestTakenStandsBehind(t *testing.T) {
	q := times(t, timed(5, 1), timed(5, 2), timed(7, 3))
	q.Take(5)
	q.Put(5, 1)
	sameTimes(t, q, timed(5, 2), timed(5, 1), timed(7, 3))
	for _, item := range q.Due(6) {
		q.Put(7, item)
	}
	sameTimes(t, q, timed(7, 3), timed(7, 2), timed(7, 1))
}
