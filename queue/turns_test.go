package queue_test

import (
	"math"
	"math/rand"
	"slices"
	"testing"

	"convoy/api"
	"convoy/queue"
)

// The calls on a queue by turn are those that the chapter lists.
var (
	_ func() *queue.Turns               = queue.NewTurns
	_ func(*queue.Turns, int) api.Errno = (*queue.Turns).Put
	_ func(*queue.Turns) (int, bool)    = (*queue.Turns).Take
	_ func(*queue.Turns) (int, bool)    = (*queue.Turns).Front
	_ func(*queue.Turns, int) bool      = (*queue.Turns).Drop
	_ func(*queue.Turns, int) bool      = (*queue.Turns).Has
	_ func(*queue.Turns, int) bool      = (*queue.Turns).Back
	_ func(*queue.Turns) int            = (*queue.Turns).Len
	_ func(*queue.Turns) []int          = (*queue.Turns).All
)

// odd is items that may be taken for something else: none, a place, an end.
var odd = []int{0, -1, 1, math.MinInt, math.MaxInt, -2, 2, api.MaxItems, -api.MaxItems, 1 << 32, math.MinInt + 1}

// turns is a queue in which items were put, one by one.
func turns(t *testing.T, items ...int) *queue.Turns {
	t.Helper()
	q := queue.NewTurns()
	for _, item := range items {
		if err := q.Put(item); err != api.OK {
			t.Fatalf("Put(%d): %d", item, err)
		}
	}
	return q
}

// sameTurns holds all that can be asked of q against a list.
func sameTurns(t *testing.T, q *queue.Turns, want ...int) {
	t.Helper()
	if got := q.All(); !slices.Equal(got, want) {
		t.Fatalf("All: %d, not %d", got, want)
	}
	if got := q.Len(); got != len(want) {
		t.Fatalf("Len: %d, not %d", got, len(want))
	}
	first, ok := q.Front()
	if ok != (len(want) > 0) || ok && first != want[0] || !ok && first != 0 {
		t.Fatalf("Front: %d, %t of %d", first, ok, want)
	}
	for _, item := range odd {
		if got := q.Has(item); got != slices.Contains(want, item) {
			t.Fatalf("Has(%d): %t in %d", item, got, want)
		}
	}
	for _, item := range want {
		if !q.Has(item) {
			t.Fatalf("Has(%d): false in %d", item, want)
		}
	}
}

func TestTurnsEmpty(t *testing.T) {
	q := queue.NewTurns()
	if q == nil {
		t.Fatal("NewTurns: nil")
	}
	sameTurns(t, q)
	if item, ok := q.Take(); item != 0 || ok {
		t.Errorf("Take: %d, %t", item, ok)
	}
	for _, item := range odd {
		if q.Drop(item) || q.Back(item) {
			t.Errorf("Drop or Back of %d in an empty queue: true", item)
		}
	}
	sameTurns(t, q)
}

// TestTurnsEmptyAgain: a queue that was emptied is as a new one.
func TestTurnsEmptyAgain(t *testing.T) {
	q := turns(t, 4, 9)
	for _, want := range []int{4, 9} {
		if item, ok := q.Take(); item != want || !ok {
			t.Errorf("Take: %d, %t, not %d", item, ok, want)
		}
	}
	sameTurns(t, q)
	if item, ok := q.Take(); item != 0 || ok {
		t.Errorf("Take of none: %d, %t", item, ok)
	}
	q.Put(7)
	sameTurns(t, q, 7)
	if !q.Drop(7) || q.Drop(7) {
		t.Error("Drop of the only one, twice")
	}
	sameTurns(t, q)
	q.Put(9)
	q.Put(4)
	sameTurns(t, q, 9, 4)
}

// TestTurnsZero: a queue that no call made is an empty one.
func TestTurnsZero(t *testing.T) {
	var q queue.Turns
	sameTurns(t, &q)
	if q.Put(3) != api.OK || q.Put(3) != api.ErrThere || q.Put(-3) != api.OK {
		t.Error("Put")
	}
	sameTurns(t, &q, 3, -3)
}

func TestTurnsPut(t *testing.T) {
	q := turns(t, odd...)
	sameTurns(t, q, odd...)
	for _, item := range odd {
		if err := q.Put(item); err != api.ErrThere {
			t.Errorf("Put(%d) again: %d", item, err)
		}
	}
	sameTurns(t, q, odd...)
	for i, want := range odd {
		if item, ok := q.Take(); item != want || !ok {
			t.Errorf("Take: %d, %t, not %d", item, ok, want)
		}
		sameTurns(t, q, odd[i+1:]...)
	}
}

func TestTurnsFrontStays(t *testing.T) {
	q := turns(t, 8, 6)
	for range 3 {
		if item, ok := q.Front(); item != 8 || !ok {
			t.Errorf("Front: %d, %t", item, ok)
		}
	}
	sameTurns(t, q, 8, 6)
}

// TestTurnsBack: of the first, one in the midst, the last, the only and an absent one.
func TestTurnsBack(t *testing.T) {
	for _, c := range []struct {
		items, want []int
		item        int
		is          bool
	}{
		{[]int{5, 3, 7}, []int{3, 7, 5}, 5, true},
		{[]int{5, 3, 7}, []int{5, 7, 3}, 3, true},
		{[]int{5, 3, 7}, []int{5, 3, 7}, 7, true},
		{[]int{5, 3}, []int{3, 5}, 5, true},
		{[]int{0, -1}, []int{-1, 0}, 0, true},
		{[]int{5}, []int{5}, 5, true},
		{[]int{0}, []int{0}, 0, true},
		{[]int{5, 3, 7}, []int{5, 3, 7}, 4, false},
		{[]int{5, 3, 7}, []int{5, 3, 7}, 0, false},
		{nil, nil, 0, false},
	} {
		q := turns(t, c.items...)
		if is := q.Back(c.item); is != c.is {
			t.Errorf("Back(%d) of %d: %t", c.item, c.items, is)
		}
		sameTurns(t, q, c.want...)
		if err := q.Put(99); err != api.OK {
			t.Errorf("Put behind Back: %d", err)
		}
		sameTurns(t, q, append(c.want, 99)...)
	}
}

// TestTurnsDrop: of the first, one in the midst, the last, the only and an absent one; and put in again.
func TestTurnsDrop(t *testing.T) {
	for _, c := range []struct {
		items, want []int
		item        int
		is          bool
	}{
		{[]int{5, 3, 7}, []int{3, 7}, 5, true},
		{[]int{5, 3, 7}, []int{5, 7}, 3, true},
		{[]int{5, 3, 7}, []int{5, 3}, 7, true},
		{[]int{5}, nil, 5, true},
		{[]int{0}, nil, 0, true},
		{[]int{-5, 5}, []int{5}, -5, true},
		{[]int{5, 3, 7}, []int{5, 3, 7}, 4, false},
		{[]int{5, 3, 7}, []int{5, 3, 7}, 0, false},
		{nil, nil, 0, false},
	} {
		q := turns(t, c.items...)
		if is := q.Drop(c.item); is != c.is {
			t.Errorf("Drop(%d) of %d: %t", c.item, c.items, is)
		}
		sameTurns(t, q, c.want...)
		if q.Drop(c.item) {
			t.Errorf("Drop(%d) of %d again: true", c.item, c.items)
		}
		if err := q.Put(c.item); err != api.OK {
			t.Errorf("Put(%d) behind Drop: %d", c.item, err)
		}
		sameTurns(t, q, append(c.want, c.item)...)
	}
}

// TestTurnsMany: MaxItems items, and one more.
func TestTurnsMany(t *testing.T) {
	const most = 65536
	q := queue.NewTurns()
	var want []int
	for i := range most {
		item := (i - most/2) * 3
		if err := q.Put(item); err != api.OK {
			t.Fatalf("Put of item %d: %d", i, err)
		}
		want = append(want, item)
	}
	if err := q.Put(1); err != api.ErrMany {
		t.Errorf("Put of one more: %d", err)
	}
	for _, item := range []int{want[0], want[most/2], want[most-1]} {
		if err := q.Put(item); err != api.ErrThere {
			t.Errorf("Put(%d), which is there, in a full queue: %d", item, err)
		}
	}
	sameTurns(t, q, want...)
	if !q.Back(want[0]) {
		t.Error("Back in a full queue: false")
	}
	want = append(want[1:], want[0])
	sameTurns(t, q, want...)
	if item, ok := q.Take(); item != want[0] || !ok {
		t.Errorf("Take: %d, %t", item, ok)
	}
	if q.Put(1) != api.OK || q.Put(2) != api.ErrMany {
		t.Error("Put where one was taken out, and one more")
	}
	if !q.Drop(want[7]) || q.Put(2) != api.OK || q.Put(4) != api.ErrMany {
		t.Error("Put where one was dropped, and one more")
	}
	sameTurns(t, q, append(append(want[1:7:7], want[8:]...), 1, 2)...)
}

// TestTurnsAllIsNew: what All told stays when the queue goes on, and the queue when what it told is written over.
func TestTurnsAllIsNew(t *testing.T) {
	q := turns(t, 5, 3, 7)
	told, again := q.All(), q.All()
	q.Back(5)
	q.Take()
	q.Put(9)
	if want := []int{5, 3, 7}; !slices.Equal(told, want) {
		t.Errorf("All, when the queue went on: %d", told)
	}
	overwrite(told)
	if want := []int{5, 3, 7}; !slices.Equal(again, want) {
		t.Errorf("All, when another answer was written over: %d", again)
	}
	sameTurns(t, q, 7, 5, 9)
	overwrite(q.All())
	sameTurns(t, q, 7, 5, 9)
}

// overwrite writes over a list, and over the spare room behind its end.
func overwrite(l []int) {
	l = l[:cap(l)]
	for i := range l {
		l[i] = 1000 + i
	}
}

// TestTurnsApart: two queues know nothing of one another.
func TestTurnsApart(t *testing.T) {
	a, b := turns(t, 1, 2), queue.NewTurns()
	sameTurns(t, b)
	if err := b.Put(2); err != api.OK {
		t.Errorf("Put of what is in another queue: %d", err)
	}
	b.Put(5)
	a.Drop(2)
	a.Put(6)
	sameTurns(t, a, 1, 6)
	sameTurns(t, b, 2, 5)
	if b.Drop(1) || b.Back(6) {
		t.Error("Drop or Back of what is in another queue: true")
	}
}

// TestTurnsLikeList plays steps by lot on a queue and on a plain list.
func TestTurnsLikeList(t *testing.T) {
	lot := rand.New(rand.NewSource(4))
	for range 300 {
		q := queue.NewTurns()
		var list []int
		for range 120 {
			item := lot.Intn(9) - 4
			place := slices.Index(list, item)
			switch lot.Intn(8) {
			case 0, 1, 2, 3:
				err := q.Put(item)
				if err != api.OK && err != api.ErrThere || (err == api.ErrThere) != (place >= 0) {
					t.Fatalf("Put(%d): %d in %d", item, err, list)
				}
				if place < 0 {
					list = append(list, item)
				}
			case 4:
				got, ok := q.Take()
				if ok != (len(list) > 0) || ok && got != list[0] || !ok && got != 0 {
					t.Fatalf("Take: %d, %t of %d", got, ok, list)
				}
				list = list[min(1, len(list)):]
			case 5, 6:
				if q.Drop(item) != (place >= 0) {
					t.Fatalf("Drop(%d) of %d", item, list)
				}
				if place >= 0 {
					list = slices.Delete(list, place, place+1)
				}
			case 7:
				if q.Back(item) != (place >= 0) {
					t.Fatalf("Back(%d) of %d", item, list)
				}
				if place >= 0 {
					list = append(slices.Delete(list, place, place+1), item)
				}
			}
			sameTurns(t, q, list...)
		}
	}
}
