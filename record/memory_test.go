package record_test

import (
	"math"
	"slices"
	"testing"

	"convoy/api"
	"convoy/record"
)

// spoil overwrites a list, and what lies in the room behind its end.
func spoil(l []int) {
	l = l[:cap(l)]
	for i := range l {
		l[i] = 99
	}
}

// spoilTold overwrites a list, and what lies in the room behind its end.
func spoilTold(l []api.Told) {
	l = l[:cap(l)]
	for i := range l {
		l[i] = api.Told{Caller: 99, Outcome: load(99)}
	}
}

// TestWaitersIsNewMemory: what Waiters tells shares nothing with what is kept, nor with another answer (R4).
func TestWaitersIsNewMemory(t *testing.T) {
	r := of(t, 5, 6, 7, 8)
	first, second := r.Waiters(), r.Waiters()
	spoil(first)
	if !slices.Equal(second, []int{5, 6, 7, 8}) {
		t.Errorf("spoilt with another answer: %v", second)
	}
	spoil(second)
	same(t, r, waited(5, 6, 7, 8))
	leave(t, r, 5, 7, 6)
	same(t, r, waited(8))
	spoil(r.Waiters())
	join(t, r, 9, 10, 11)
	same(t, r, waited(8, 9, 10, 11))
	third := r.Waiters()
	leave(t, r, 8, 9, 10)
	join(t, r, 12)
	end(t, r, value(1), 11, 12)
	if !slices.Equal(third, []int{8, 9, 10, 11}) {
		t.Errorf("an answer changed later: %v", third)
	}
}

// TestToldIsNewMemory: what End tells shares nothing with what is kept, nor with what another one tells (R4).
func TestToldIsNewMemory(t *testing.T) {
	r := of(t, 5, 6)
	twin := r.Clone()
	first, _ := r.End(value(3))
	second, _ := twin.End(value(4))
	spoilTold(first)
	if !slices.Equal(second, told(value(4), 5, 6)) {
		t.Errorf("spoilt with another answer: %v", second)
	}
	spoilTold(second)
	same(t, r, over(asked, false, value(3)))
	same(t, twin, over(asked, false, value(4)))
}

// TestApart: two records know nothing of one another, though they are of one run (R5).
func TestApart(t *testing.T) {
	a, b := of(t, 5, 6), of(t, 5, 6)
	leave(t, a, 5)
	leaveLast(t, a, 6)
	join(t, b, 7)
	same(t, a, waited())
	same(t, b, waited(5, 6, 7))
	end(t, b, value(1), 5, 6, 7)
	same(t, a, waited())
}

// change is what can be done to a record, and what it is then.
type change struct {
	name string
	do   func(r *record.Record)
	then state
}

// changes is what can be done to a run for which 5, 6 and 7 wait.
func changes(t *testing.T) []change {
	return []change{
		{"nothing", func(r *record.Record) {}, waited(5, 6, 7)},
		{"Join", func(r *record.Record) { join(t, r, 8) }, waited(5, 6, 7, 8)},
		{"Leave of the first", func(r *record.Record) { leave(t, r, 5) }, waited(6, 7)},
		{"Leave of the last", func(r *record.Record) { leave(t, r, 7) }, waited(5, 6)},
		{"Leave of two", func(r *record.Record) { leave(t, r, 5, 6) }, waited(7)},
		{"Leave and Join", func(r *record.Record) { leave(t, r, 6); join(t, r, 6) }, waited(5, 7, 6)},
		{"Leave of all", func(r *record.Record) { leave(t, r, 7, 6); leaveLast(t, r, 5) }, waited()},
		{"End", func(r *record.Record) { end(t, r, load(1), 5, 6, 7) }, over(asked, false, load(1))},
		{"End of what all left", func(r *record.Record) { leave(t, r, 5, 6); leaveLast(t, r, 7); end(t, r, value(1)) }, over(asked, true, value(1))},
	}
}

// refreshChanges is what can be done to a refresh whose entry is kept, and for which 5 waits.
func refreshChanges(t *testing.T) []change {
	return []change{
		{"nothing", func(r *record.Record) {}, kept(5)},
		{"Join", func(r *record.Record) { join(t, r, 8) }, kept(5, 8)},
		{"Leave", func(r *record.Record) { leave(t, r, 5) }, kept()},
		{"Release", func(r *record.Record) { release(t, r, false) }, released(5)},
		{"Release of the last", func(r *record.Record) { leave(t, r, 5); release(t, r, true) }, released()},
		{"Leave of the last", func(r *record.Record) { release(t, r, false); leaveLast(t, r, 5) }, released()},
		{"End", func(r *record.Record) { end(t, r, value(1), 5) }, over(renewed, false, value(1))},
	}
}

// cloneApart looks that a clone is the same, and that neither sees what is done with the other, however far each has gone.
func cloneApart(t *testing.T, begin func() *record.Record, all []change) {
	t.Helper()
	for _, one := range all {
		for _, other := range all {
			r := begin()
			twin := r.Clone()
			if twin == r {
				t.Fatal("the clone is the record itself")
			}
			same(t, twin, all[0].then)
			one.do(r)
			same(t, twin, all[0].then)
			other.do(twin)
			same(t, r, one.then)
			same(t, twin, other.then)
			third := r.Clone()
			same(t, third, one.then)
			third.Release()
			third.Join(15)
			third.Leave(6)
			third.End(value(77))
			same(t, r, one.then)
		}
	}
}

// TestClone: the clone is the same, and neither of the two sees what is done with the other (11.4).
func TestClone(t *testing.T) {
	cloneApart(t, func() *record.Record { return of(t, 5, 6, 7) }, changes(t))
	cloneApart(t, func() *record.Record { return refresh(t, 5) }, refreshChanges(t))
}

// TestCloneWithRoom: nor where some left ahead of it, and both go on in the room that they left (11.4).
func TestCloneWithRoom(t *testing.T) {
	r := of(t, 1, 2, 3, 4, 5, 6, 7, 8, 9)
	leave(t, r, 2, 4, 9)
	twin := r.Clone()
	join(t, r, 10, 2)
	join(t, twin, 11, 12, 4)
	same(t, r, waited(1, 3, 5, 6, 7, 8, 10, 2))
	same(t, twin, waited(1, 3, 5, 6, 7, 8, 11, 12, 4))
	leave(t, r, 1, 3, 5, 6, 7, 8, 10)
	same(t, twin, waited(1, 3, 5, 6, 7, 8, 11, 12, 4))
	leave(t, twin, 4, 12, 11, 8, 7)
	same(t, r, waited(2))
	same(t, twin, waited(1, 3, 5, 6))
	leaveLast(t, r, 2)
	end(t, twin, value(1), 1, 3, 5, 6)
	same(t, r, waited())
}

// TestNil: every call on a nil Record, ahead of all else (11.4).
func TestNil(t *testing.T) {
	var r *record.Record
	for range 2 {
		same(t, r, state{})
		for _, caller := range []int{1, 5, math.MaxInt, 0, -1, math.MinInt} {
			noJoin(t, r, api.ErrArg, caller)
			noLeave(t, r, api.ErrArg, caller)
		}
		release(t, r, false)
		noEnd(t, r, api.ErrArg, outcomes...)
		noEnd(t, r, api.ErrArg, noOutcomes...)
		if twin := r.Clone(); twin != nil {
			t.Fatalf("Clone: %v", twin)
		}
	}
}

// TestZero: a record that no call gave does no harm (R1).
func TestZero(t *testing.T) {
	for _, caller := range []int{-1, 0, 1} {
		r := new(record.Record)
		r.Leave(caller)
		r.Release()
		r.Clone().Join(caller)
		r.Join(caller)
		r.Waiters()
		r.Leave(caller)
		r.End(value(1))
		r.Clone()
	}
}
