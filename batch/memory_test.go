package batch_test

import (
	"math"
	"slices"
	"testing"

	"convoy/api"
	"convoy/batch"
)

// spoil overwrites a list, and what lies in the room behind its end.
func spoil(l []int) {
	l = l[:cap(l)]
	for i := range l {
		l[i] = 99
	}
}

// gathers makes a batch in which runs 1, 2, 3 .. wait, behind a load that was sent.
func gathers(t *testing.T, count, waits int) *batch.Batch {
	t.Helper()
	b := of(t, count, 10)
	add(t, b, 3, 1)
	force(t, b, 1)
	for run := range waits {
		add(t, b, 5, run+2)
	}
	return b
}

// TestRunsIsNewMemory: what Runs tells shares nothing with what is kept, nor with another answer, and stays as it is (R4).
func TestRunsIsNewMemory(t *testing.T) {
	for waits := 1; waits < 9; waits++ {
		b := gathers(t, 20, waits)
		runs, want := b.Runs(), b.Runs()
		spoil(b.Runs())
		if !slices.Equal(runs, want) {
			t.Fatalf("spoilt with another answer: %v", runs)
		}
		same(t, b, 1, 15, want...)
		add(t, b, 6, waits+2)
		spoil(runs)
		want = append(want, waits+2)
		same(t, b, 1, 15, want...)
		runs = b.Runs()
		force(t, b, want...)
		if !slices.Equal(runs, want) {
			t.Fatalf("an answer changed later: %v, not %v", runs, want)
		}
	}
}

// loadApart spoils a load when some more wait behind it, and looks that all else stays as it is.
func loadApart(t *testing.T, waits, more int, way func(b *batch.Batch) []int) {
	t.Helper()
	b := gathers(t, waits+1, waits)
	twin, runs := b.Clone(), b.Runs()
	load := way(b)
	sent := slices.Clone(load)
	var next []int
	for i := range more {
		add(t, b, 15, waits+3+i)
		next = append(next, waits+3+i)
	}
	if !slices.Equal(load, sent) || !slices.Equal(load[:waits], runs) {
		t.Fatalf("a load changed later: %v, not %v", load, sent)
	}
	spoil(load)
	same(t, b, 2, 25, next...)
	same(t, twin, 1, 15, runs...)
	force(t, b, next...)
}

// TestLoadIsNewMemory: what is sent shares nothing with what is kept, nor with another load, however it is sent (R4).
func TestLoadIsNewMemory(t *testing.T) {
	for waits := 1; waits < 12; waits++ {
		// How many more there are matters: a list that has grown lies elsewhere.
		for more := 1; more <= waits; more++ {
			loadApart(t, waits, more, func(b *batch.Batch) []int { return b.Force() })
			loadApart(t, waits, more, func(b *batch.Batch) []int { l, _ := b.Send(15); return l })
			loadApart(t, waits, more, func(b *batch.Batch) []int { l, _ := b.Add(15, waits+2); return l })
		}
	}
}

// change is what can be done to a batch in which 2 and 3 wait, of count 4, and what it is then.
type change struct {
	name string
	do   func(b *batch.Batch)
	sent int
	due  int64
	runs []int
	now  int64
	last int
}

// changes is what can be done to such a batch.
func changes(t *testing.T) []change {
	return []change{
		{"nothing", func(b *batch.Batch) {}, 1, 15, []int{2, 3}, 5, 3},
		{"Add", func(b *batch.Batch) { add(t, b, 6, 8) }, 1, 15, []int{2, 3, 8}, 6, 8},
		{"Add that makes count", func(b *batch.Batch) { add(t, b, 5, 4); add(t, b, 7, 9, 2, 3, 4, 9) }, 2, 0, nil, 7, 9},
		{"Send ahead of the due tick", func(b *batch.Batch) { send(t, b, 14) }, 1, 15, []int{2, 3}, 14, 3},
		{"Send", func(b *batch.Batch) { send(t, b, 16, 2, 3) }, 2, 0, nil, 16, 3},
		{"Force", func(b *batch.Batch) { force(t, b, 2, 3) }, 2, 0, nil, 5, 3},
		{"Force and Add", func(b *batch.Batch) { force(t, b, 2, 3); add(t, b, 9, 7) }, 2, 19, []int{7}, 9, 7},
		{"what is refused", func(b *batch.Batch) { noAdd(t, b, api.ErrAdded, 9, 3); noSend(t, b, api.ErrPast, 4) }, 1, 15, []int{2, 3}, 5, 3},
	}
}

// is holds a batch against what it should be behind a change.
func (c change) is(t *testing.T, b *batch.Batch) {
	t.Helper()
	same(t, b, c.sent, c.due, c.runs...)
	stands(t, b, c.now, c.last)
}

// TestClone: the clone is the same, and neither of the two sees what is done with the other, however far each has gone (13.3).
func TestClone(t *testing.T) {
	for _, first := range changes(t) {
		for _, second := range changes(t) {
			b := gathers(t, 4, 2)
			twin := b.Clone()
			if twin == nil || twin == b {
				t.Fatal("Clone: nil, or the batch itself")
			}
			changes(t)[0].is(t, twin)
			first.do(b)
			changes(t)[0].is(t, twin)
			second.do(twin)
			first.is(t, b)
			second.is(t, twin)
			third := b.Clone()
			first.is(t, third)
			spoil(third.Force())
			third.Add(last, 50)
			first.is(t, b)
		}
	}
}

// TestCloneHasCountAndWindow: as many make a load of the clone, and it is due as late (13.3).
func TestCloneHasCountAndWindow(t *testing.T) {
	for _, count := range []int{1, 2, 5} {
		for _, window := range []int64{0, 1, 7, longest} {
			b := of(t, count, window)
			twin := b.Clone()
			for run := 1; run < 20; run++ {
				got, err := b.Add(int64(run), run)
				like, wrong := twin.Add(int64(run), run)
				due, _ := b.Due()
				if !slices.Equal(got, like) || err != api.OK || wrong != api.OK {
					t.Fatalf("Add(%d): %v, %d, and of the clone %v, %d", run, got, err, like, wrong)
				}
				same(t, twin, b.Sent(), due, b.Runs()...)
				twin = twin.Clone()
			}
		}
	}
}

// TestCloneBehindAGrownList: the two do not write into one spare room (13.3, R4).
func TestCloneBehindAGrownList(t *testing.T) {
	for waits := 1; waits < 20; waits++ {
		b := gathers(t, 30, waits)
		twin, runs := b.Clone(), b.Runs()
		add(t, b, 5, 100)
		add(t, twin, 5, 200)
		same(t, b, 1, 15, append(slices.Clone(runs), 100)...)
		same(t, twin, 1, 15, append(slices.Clone(runs), 200)...)
	}
}

// TestNil: every call on a nil Batch, ahead of all else (13.3).
func TestNil(t *testing.T) {
	var b *batch.Batch
	for range 2 {
		for _, now := range append(noTicks, 0, 1, last) {
			noAdd(t, b, api.ErrArg, now, append(noRuns, 1, 2, math.MaxInt)...)
			noSend(t, b, api.ErrArg, now)
		}
		force(t, b)
		same(t, b, 0, 0)
		if twin := b.Clone(); twin != nil {
			t.Fatalf("Clone: %v", twin)
		}
	}
}

// TestZero: a batch that no call gave does no harm (R1).
func TestZero(t *testing.T) {
	for _, b := range []*batch.Batch{new(batch.Batch), new(batch.Batch).Clone()} {
		same(t, b, 0, 0)
		force(t, b)
		send(t, b, 3)
		noSend(t, b, api.ErrPast, 2)
		add(t, b, 3, 1, 1)
		noAdd(t, b, api.ErrAdded, 3, 1)
		same(t, b, 1, 0)
	}
}
