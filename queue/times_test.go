package queue_test

import (
	"math"
	"math/rand"
	"slices"
	"testing"

	"convoy/api"
	"convoy/queue"
)

// The calls on a queue by time are those that the chapter lists.
var (
	_ func() *queue.Times                      = queue.NewTimes
	_ func(*queue.Times, int64, int) api.Errno = (*queue.Times).Put
	_ func(*queue.Times, int64) (int, bool)    = (*queue.Times).Take
	_ func(*queue.Times) (int64, int, bool)    = (*queue.Times).Next
	_ func(*queue.Times, int64) []int          = (*queue.Times).Due
	_ func(*queue.Times, int) bool             = (*queue.Times).Drop
	_ func(*queue.Times, int) (int64, bool)    = (*queue.Times).At
	_ func(*queue.Times) int                   = (*queue.Times).Len
	_ func(*queue.Times) []api.Timed           = (*queue.Times).All
)

const last = 1 << 62 // the last tick

// noTicks is numbers that are no ticks.
var noTicks = []int64{-1, -2, math.MinInt64, math.MinInt64 + 1, -last, last + 1, math.MaxInt64}

func timed(at int64, item int) api.Timed { return api.Timed{At: at, Item: item} }

// times is a queue in which items were put, one by one.
func times(t *testing.T, items ...api.Timed) *queue.Times {
	t.Helper()
	q := queue.NewTimes()
	for _, i := range items {
		if err := q.Put(i.At, i.Item); err != api.OK {
			t.Fatalf("Put(%d, %d): %d", i.At, i.Item, err)
		}
	}
	return q
}

// sameTimes holds all that can be asked of q against a list.
func sameTimes(t *testing.T, q *queue.Times, want ...api.Timed) {
	t.Helper()
	if got := q.All(); !slices.Equal(got, want) {
		t.Fatalf("All: %v, not %v", got, want)
	}
	if got := q.Len(); got != len(want) {
		t.Fatalf("Len: %d, not %d", got, len(want))
	}
	at, item, ok := q.Next()
	if ok != (len(want) > 0) || ok && timed(at, item) != want[0] || !ok && (at != 0 || item != 0) {
		t.Fatalf("Next: %d, %d, %t of %v", at, item, ok, want)
	}
	for _, item := range odd {
		if !slices.ContainsFunc(want, func(i api.Timed) bool { return i.Item == item }) {
			if at, ok := q.At(item); at != 0 || ok {
				t.Fatalf("At(%d): %d, %t in %v", item, at, ok, want)
			}
		}
	}
	for _, i := range want {
		if at, ok := q.At(i.Item); at != i.At || !ok {
			t.Fatalf("At(%d): %d, %t in %v", i.Item, at, ok, want)
		}
	}
}

func TestTimesEmpty(t *testing.T) {
	q := queue.NewTimes()
	if q == nil {
		t.Fatal("NewTimes: nil")
	}
	sameTimes(t, q)
	for _, now := range append([]int64{0, 1, last}, noTicks...) {
		if item, ok := q.Take(now); item != 0 || ok {
			t.Errorf("Take(%d): %d, %t", now, item, ok)
		}
		if l := q.Due(now); len(l) != 0 {
			t.Errorf("Due(%d): %d", now, l)
		}
	}
	for _, item := range odd {
		if q.Drop(item) {
			t.Errorf("Drop(%d) of an empty queue: true", item)
		}
	}
	sameTimes(t, q)
}

// TestTimesEmptyAgain: a queue that was emptied is as a new one.
func TestTimesEmptyAgain(t *testing.T) {
	q := times(t, timed(4, 1), timed(2, 2))
	if l := q.Due(4); !slices.Equal(l, []int{2, 1}) {
		t.Errorf("Due: %d", l)
	}
	sameTimes(t, q)
	if l := q.Due(last); len(l) != 0 {
		t.Errorf("Due of none: %d", l)
	}
	if q.Drop(1) || q.Drop(2) {
		t.Error("Drop of what was due: true")
	}
	q.Put(0, 2)
	sameTimes(t, q, timed(0, 2))
	if !q.Drop(2) || q.Drop(2) {
		t.Error("Drop of the only one, twice")
	}
	sameTimes(t, q)
}

// TestTimesZero: a queue that no call made is an empty one.
func TestTimesZero(t *testing.T) {
	var q queue.Times
	sameTimes(t, &q)
	if q.Put(6, 3) != api.OK || q.Put(6, 3) != api.ErrThere || q.Put(5, -3) != api.OK {
		t.Error("Put")
	}
	sameTimes(t, &q, timed(5, -3), timed(6, 3))
}

func TestTimesPut(t *testing.T) {
	q := times(t, timed(last, 1), timed(0, 2), timed(7, 0), timed(last-1, -1), timed(1, math.MinInt), timed(7, math.MaxInt), timed(0, -2))
	want := []api.Timed{timed(0, 2), timed(0, -2), timed(1, math.MinInt), timed(7, 0), timed(7, math.MaxInt), timed(last-1, -1), timed(last, 1)}
	sameTimes(t, q, want...)
	for _, at := range noTicks {
		for _, item := range []int{0, 1, 5, -9} {
			if err := q.Put(at, item); err != api.ErrArg {
				t.Errorf("Put(%d, %d): %d", at, item, err)
			}
		}
	}
	for _, i := range want {
		for _, at := range []int64{i.At, 0, 3, last} {
			if err := q.Put(at, i.Item); err != api.ErrThere {
				t.Errorf("Put(%d, %d) again: %d", at, i.Item, err)
			}
		}
	}
	sameTimes(t, q, want...)
}

// TestTimesTake: with a now below, at and above the first one's tick.
func TestTimesTake(t *testing.T) {
	for _, at := range []int64{0, 1, 7, last - 1, last} {
		for _, now := range []int64{math.MinInt64, -1, at - 1} {
			q := times(t, timed(at, 5))
			if item, ok := q.Take(now); item != 0 || ok {
				t.Errorf("Take(%d) of the tick %d: %d, %t", now, at, item, ok)
			}
			sameTimes(t, q, timed(at, 5))
		}
		for _, now := range []int64{at, at + 1, last, math.MaxInt64} {
			q := times(t, timed(at, 5), timed(at, 4))
			for _, want := range []int{5, 4} {
				if item, ok := q.Take(now); item != want || !ok {
					t.Errorf("Take(%d) of the tick %d: %d, %t", now, at, item, ok)
				}
			}
			sameTimes(t, q)
		}
	}
}

// TestTimesTakeOne: one at a time, and what comes after stays.
func TestTimesTakeOne(t *testing.T) {
	q := times(t, timed(9, 1), timed(3, 2), timed(6, 3))
	if item, ok := q.Take(8); item != 2 || !ok {
		t.Errorf("Take: %d, %t", item, ok)
	}
	sameTimes(t, q, timed(6, 3), timed(9, 1))
	if item, ok := q.Take(8); item != 3 || !ok {
		t.Errorf("Take: %d, %t", item, ok)
	}
	if item, ok := q.Take(8); item != 0 || ok {
		t.Errorf("Take: %d, %t", item, ok)
	}
	sameTimes(t, q, timed(9, 1))
}

func TestTimesNextStays(t *testing.T) {
	q := times(t, timed(9, 1), timed(3, -2))
	for range 3 {
		if at, item, ok := q.Next(); at != 3 || item != -2 || !ok {
			t.Errorf("Next: %d, %d, %t", at, item, ok)
		}
	}
	sameTimes(t, q, timed(3, -2), timed(9, 1))
}

// TestTimesDue: of nothing, of some, of all.
func TestTimesDue(t *testing.T) {
	items := []api.Timed{timed(7, 1), timed(3, 2), timed(7, 3), timed(last, 4), timed(3, 0)}
	inOrder := []api.Timed{timed(3, 2), timed(3, 0), timed(7, 1), timed(7, 3), timed(last, 4)}
	for _, c := range []struct {
		now int64
		due int
	}{
		{math.MinInt64, 0}, {-1, 0}, {0, 0}, {2, 0}, {3, 2}, {4, 2}, {6, 2}, {7, 4}, {8, 4}, {last - 1, 4}, {last, 5}, {last + 1, 5}, {math.MaxInt64, 5},
	} {
		q := times(t, items...)
		var want []int
		for _, i := range inOrder[:c.due] {
			want = append(want, i.Item)
		}
		if got := q.Due(c.now); !slices.Equal(got, want) {
			t.Errorf("Due(%d): %d, not %d", c.now, got, want)
		}
		sameTimes(t, q, inOrder[c.due:]...)
		if got := q.Due(c.now); len(got) != 0 {
			t.Errorf("Due(%d) again: %d", c.now, got)
		}
		sameTimes(t, q, inOrder[c.due:]...)
	}
}

// TestTimesDrop: of the first, one in the midst, the last, the only and an absent one; and put in again.
func TestTimesDrop(t *testing.T) {
	three := []api.Timed{timed(2, 5), timed(4, 3), timed(8, 7)}
	for _, c := range []struct {
		items, want []api.Timed
		item        int
		is          bool
	}{
		{three, []api.Timed{timed(4, 3), timed(8, 7)}, 5, true},
		{three, []api.Timed{timed(2, 5), timed(8, 7)}, 3, true},
		{three, []api.Timed{timed(2, 5), timed(4, 3)}, 7, true},
		{[]api.Timed{timed(0, 0)}, nil, 0, true},
		{[]api.Timed{timed(last, -4)}, nil, -4, true},
		{three, three, 2, false},
		{three, three, 0, false},
		{nil, nil, 0, false},
	} {
		q := times(t, c.items...)
		if is := q.Drop(c.item); is != c.is {
			t.Errorf("Drop(%d) of %v: %t", c.item, c.items, is)
		}
		sameTimes(t, q, c.want...)
		if q.Drop(c.item) {
			t.Errorf("Drop(%d) of %v again: true", c.item, c.items)
		}
		if at, ok := q.At(c.item); at != 0 || ok {
			t.Errorf("At(%d) behind Drop: %d, %t", c.item, at, ok)
		}
		if err := q.Put(last, c.item); err != api.OK {
			t.Errorf("Put(%d) behind Drop: %d", c.item, err)
		}
		sameTimes(t, q, append(c.want, timed(last, c.item))...)
	}
}

// TestTimesMany: MaxItems items, and one more.
func TestTimesMany(t *testing.T) {
	const most = 65536
	q := queue.NewTimes()
	var want []api.Timed
	for i := range most {
		item := (most/2 - i) * 3
		if err := q.Put(int64(i/2), item); err != api.OK {
			t.Fatalf("Put of item %d: %d", i, err)
		}
		want = append(want, timed(int64(i/2), item))
	}
	if err := q.Put(0, 1); err != api.ErrMany {
		t.Errorf("Put of one more: %d", err)
	}
	for _, i := range []api.Timed{want[0], want[most/2], want[most-1]} {
		if err := q.Put(0, i.Item); err != api.ErrThere {
			t.Errorf("Put of what is there in a full queue: %d", err)
		}
		for _, at := range noTicks {
			if q.Put(at, i.Item) != api.ErrArg || q.Put(at, 1) != api.ErrArg {
				t.Errorf("Put(%d) in a full queue: not ErrArg", at)
			}
		}
	}
	sameTimes(t, q, want...)
	if item, ok := q.Take(0); item != want[0].Item || !ok {
		t.Errorf("Take: %d, %t", item, ok)
	}
	if q.Put(last, 1) != api.OK || q.Put(last, 2) != api.ErrMany {
		t.Error("Put where one was taken out, and one more")
	}
	if !q.Drop(want[7].Item) || q.Put(last, 2) != api.OK || q.Put(last, 4) != api.ErrMany {
		t.Error("Put where one was dropped, and one more")
	}
	want = append(append(want[1:7:7], want[8:]...), timed(last, 1), timed(last, 2))
	sameTimes(t, q, want...)
	due := q.Due(last)
	if len(due) != most {
		t.Fatalf("Due of all: %d", len(due))
	}
	for i, item := range due {
		if item != want[i].Item {
			t.Fatalf("Due of all: at %d %d, not %d", i, item, want[i].Item)
		}
	}
	sameTimes(t, q)
}

// TestTimesToldIsNew: what All and Due told stays when the queue goes on, and the queue when what it told is written over.
func TestTimesToldIsNew(t *testing.T) {
	q := times(t, timed(7, 1), timed(3, 2), timed(7, 3), timed(1, 4), timed(9, 5))
	inOrder := []api.Timed{timed(1, 4), timed(3, 2), timed(7, 1), timed(7, 3), timed(9, 5)}
	told, again := q.All(), q.All()
	due := q.Due(3)
	overDue := q.Due(7)
	q.Put(2, 8)
	if !slices.Equal(told, inOrder) || !slices.Equal(due, []int{4, 2}) || !slices.Equal(overDue, []int{1, 3}) {
		t.Errorf("what was told, when the queue went on: %v, %d, %d", told, due, overDue)
	}
	overwriteTimed(told)
	overwrite(due)
	if !slices.Equal(again, inOrder) || !slices.Equal(overDue, []int{1, 3}) {
		t.Errorf("what was told, when another answer was written over: %v, %d", again, overDue)
	}
	overwriteTimed(q.All())
	sameTimes(t, q, timed(2, 8), timed(9, 5))
}

// overwriteTimed writes over a list, and over the spare room behind its end.
func overwriteTimed(l []api.Timed) {
	l = l[:cap(l)]
	for i := range l {
		l[i] = timed(int64(i), 1000+i)
	}
}

// TestTimesApart: two queues know nothing of one another.
func TestTimesApart(t *testing.T) {
	a, b := times(t, timed(4, 1), timed(4, 2)), queue.NewTimes()
	sameTimes(t, b)
	if err := b.Put(3, 2); err != api.OK {
		t.Errorf("Put of what is in another queue: %d", err)
	}
	b.Put(3, 5)
	a.Drop(2)
	a.Put(4, 6)
	sameTimes(t, a, timed(4, 1), timed(4, 6))
	sameTimes(t, b, timed(3, 2), timed(3, 5))
	if b.Drop(1) {
		t.Error("Drop of what is in another queue: true")
	}
}

// behind lays an item into a list that is in order: behind those of its tick and of lesser ones.
func behind(list []api.Timed, i api.Timed) []api.Timed {
	place := 0
	for place < len(list) && list[place].At <= i.At {
		place++
	}
	return slices.Insert(list, place, i)
}

// TestTimesLikeList plays steps by lot on a queue and on a plain list.
func TestTimesLikeList(t *testing.T) {
	lot := rand.New(rand.NewSource(4))
	for round := range 300 {
		items, ticks := 5+round%20, int64(1+round%7)
		q := queue.NewTimes()
		var list []api.Timed
		for range 150 {
			item, at := lot.Intn(items)-items/2, lot.Int63n(ticks)
			place := slices.IndexFunc(list, func(i api.Timed) bool { return i.Item == item })
			switch lot.Intn(10) {
			case 0, 1, 2, 3, 4, 5:
				err := q.Put(at, item)
				if err != api.OK && err != api.ErrThere || (err == api.ErrThere) != (place >= 0) {
					t.Fatalf("Put(%d, %d): %d in %v", at, item, err, list)
				}
				if place < 0 {
					list = behind(list, timed(at, item))
				}
			case 6:
				due := len(list) > 0 && list[0].At <= at
				got, ok := q.Take(at)
				if ok != due || ok && got != list[0].Item || !ok && got != 0 {
					t.Fatalf("Take(%d): %d, %t of %v", at, got, ok, list)
				}
				if due {
					list = list[1:]
				}
			case 7, 8:
				if q.Drop(item) != (place >= 0) {
					t.Fatalf("Drop(%d) of %v", item, list)
				}
				if place >= 0 {
					list = slices.Delete(list, place, place+1)
				}
			case 9:
				var due []int
				for len(list) > 0 && list[0].At <= at-1 {
					due, list = append(due, list[0].Item), list[1:]
				}
				if got := q.Due(at - 1); !slices.Equal(got, due) {
					t.Fatalf("Due(%d): %d, not %d", at-1, got, due)
				}
			}
			sameTimes(t, q, list...)
		}
	}
}
