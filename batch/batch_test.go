package batch_test

import (
	"math"
	"slices"
	"testing"

	"convoy/api"
	"convoy/batch"
)

// The calls are those that the chapter lists: a change of one does not compile.
var (
	_ func(int, int64) (*batch.Batch, api.Errno)        = batch.New
	_ func(*batch.Batch, int64, int) ([]int, api.Errno) = (*batch.Batch).Add
	_ func(*batch.Batch) (int64, bool)                  = (*batch.Batch).Due
	_ func(*batch.Batch, int64) ([]int, api.Errno)      = (*batch.Batch).Send
	_ func(*batch.Batch) []int                          = (*batch.Batch).Force
	_ func(*batch.Batch) []int                          = (*batch.Batch).Runs
	_ func(*batch.Batch, int) bool                      = (*batch.Batch).Has
	_ func(*batch.Batch) int                            = (*batch.Batch).Sent
	_ func(*batch.Batch) *batch.Batch                   = (*batch.Batch).Clone
)

const (
	last    = 1 << 62       // the last tick
	longest = math.MaxInt64 // the greatest window
	most    = 1024          // runs of a load
)

// noTicks is numbers that are no ticks.
var noTicks = []int64{-1, -2, -last, math.MinInt64, math.MinInt64 + 1, last + 1, last + 2, longest}

// noRuns is numbers that no run has.
var noRuns = []int{0, -1, -2, -last, math.MinInt}

// of makes a batch.
func of(t *testing.T, count int, window int64) *batch.Batch {
	t.Helper()
	b, err := batch.New(count, window)
	if b == nil || err != api.OK {
		t.Fatalf("New(%d, %d): %v, %d", count, window, b, err)
	}
	return b
}

// add adds a run, and holds what is sent by that against a list.
func add(t *testing.T, b *batch.Batch, now int64, run int, want ...int) {
	t.Helper()
	if got, err := b.Add(now, run); !slices.Equal(got, want) || err != api.OK {
		t.Fatalf("Add(%d, %d): %v, %d, not %v", now, run, got, err, want)
	}
}

// noAdd looks that runs are not added, with an error.
func noAdd(t *testing.T, b *batch.Batch, want api.Errno, now int64, runs ...int) {
	t.Helper()
	for _, run := range runs {
		if got, err := b.Add(now, run); len(got) != 0 || err != want {
			t.Fatalf("Add(%d, %d): %v, %d, not %d", now, run, got, err, want)
		}
	}
}

// send sends what is due, and holds it against a list.
func send(t *testing.T, b *batch.Batch, now int64, want ...int) {
	t.Helper()
	if got, err := b.Send(now); !slices.Equal(got, want) || err != api.OK {
		t.Fatalf("Send(%d): %v, %d, not %v", now, got, err, want)
	}
}

// noSend looks that nothing can be sent at some ticks, with an error.
func noSend(t *testing.T, b *batch.Batch, want api.Errno, ticks ...int64) {
	t.Helper()
	for _, now := range ticks {
		if got, err := b.Send(now); len(got) != 0 || err != want {
			t.Fatalf("Send(%d): %v, %d, not %d", now, got, err, want)
		}
	}
}

// force sends what waits, and holds it against a list.
func force(t *testing.T, b *batch.Batch, want ...int) {
	t.Helper()
	if got := b.Force(); !slices.Equal(got, want) {
		t.Fatalf("Force: %v, not %v", got, want)
	}
}

// same holds all that can be asked of a batch against what waits, when that is due, and how many loads were sent.
func same(t *testing.T, b *batch.Batch, sent int, due int64, runs ...int) {
	t.Helper()
	if got := b.Runs(); !slices.Equal(got, runs) {
		t.Fatalf("Runs: %v, not %v", got, runs)
	}
	if at, waits := b.Due(); at != due || waits != (len(runs) > 0) {
		t.Fatalf("Due: %d, %t, not %d, of %v", at, waits, due, runs)
	}
	if got := b.Sent(); got != sent {
		t.Fatalf("Sent: %d, not %d", got, sent)
	}
	asked := slices.Concat(noRuns, []int{1, 2, 3, 99, math.MaxInt})
	for _, run := range runs {
		asked = append(asked, run-1, run, run+1)
	}
	for _, run := range asked {
		if got := b.Has(run); got != slices.Contains(runs, run) {
			t.Fatalf("Has(%d): %t, of %v", run, got, runs)
		}
	}
}

// stands looks, beside what same does not ask for, which tick was told last, and which run was added last, without a change.
func stands(t *testing.T, b *batch.Batch, now int64, run int) {
	t.Helper()
	if now > 0 {
		noSend(t, b, api.ErrPast, now-1, 0)
		noAdd(t, b, api.ErrPast, now-1, run+1)
	}
	if run > 0 {
		noAdd(t, b, api.ErrAdded, now, run, 1)
	}
	if _, err := b.Clone().Send(now); err != api.OK {
		t.Fatalf("Send(%d): %d", now, err)
	}
	if _, err := b.Clone().Add(now, run+1); err != api.OK {
		t.Fatalf("Add(%d, %d): %d", now, run+1, err)
	}
}

// TestExample plays the chapter's example.
func TestExample(t *testing.T) {
	b := of(t, 3, 10)
	add(t, b, 0, 1)
	add(t, b, 4, 2)
	same(t, b, 0, 10, 1, 2)
	send(t, b, 9)
	send(t, b, 10, 1, 2)
	add(t, b, 11, 3)
	add(t, b, 11, 4)
	add(t, b, 11, 5, 3, 4, 5)
	same(t, b, 2, 0)
	b = of(t, 1, 5)
	add(t, b, 0, 1, 1)
	same(t, b, 1, 0)
}

// TestNew: counts and windows that may be, the least and the greatest too; nothing waits, and nothing was sent or told (13.1).
func TestNew(t *testing.T) {
	for _, count := range []int{1, 2, 3, most - 1, most} {
		for _, window := range []int64{0, 1, 2, last - 1, last, last + 1, longest} {
			b := of(t, count, window)
			same(t, b, 0, 0)
			stands(t, b, 0, 0)
			force(t, b)
			same(t, b, 0, 0)
		}
	}
	if most != api.MaxBatch || last != api.MaxTime {
		t.Fatal("the limits are others")
	}
}

// TestNewWrong: a count or a window that may not be, or both (13.1).
func TestNewWrong(t *testing.T) {
	refuse := func(count int, window int64) {
		t.Helper()
		if b, err := batch.New(count, window); b != nil || err != api.ErrArg {
			t.Errorf("New(%d, %d): %v, %d", count, window, b, err)
		}
	}
	noCounts := []int{0, -1, -most, math.MinInt, most + 1, most + 2, math.MaxInt}
	noWindows := []int64{-1, -2, -last, math.MinInt64}
	for _, count := range noCounts {
		for _, window := range append(noWindows, 0, 1, last, longest) {
			refuse(count, window)
		}
	}
	for _, window := range noWindows {
		for _, count := range []int{1, 2, most} {
			refuse(count, window)
		}
	}
}

// TestNewApart: two batches know nothing of one another (R5).
func TestNewApart(t *testing.T) {
	x, y := of(t, 3, 10), of(t, 3, 10)
	add(t, x, 7, 5)
	same(t, y, 0, 0)
	stands(t, y, 0, 0)
	add(t, y, 0, 1)
	force(t, x, 5)
	same(t, x, 1, 0)
	same(t, y, 0, 10, 1)
}

// TestAdd: runs wait behind one another, those with gaps between their numbers too, the greatest one too (13.1).
func TestAdd(t *testing.T) {
	b := of(t, 9, 10)
	add(t, b, 3, 2)
	same(t, b, 0, 13, 2)
	add(t, b, 3, 3)
	same(t, b, 0, 13, 2, 3)
	add(t, b, 4, 70)
	add(t, b, 12, math.MaxInt-1)
	add(t, b, 12, math.MaxInt)
	same(t, b, 0, 13, 2, 3, 70, math.MaxInt-1, math.MaxInt)
	noAdd(t, b, api.ErrAdded, 12, math.MaxInt, math.MaxInt-1, 1)
	same(t, b, 0, 13, 2, 3, 70, math.MaxInt-1, math.MaxInt)
	force(t, b, 2, 3, 70, math.MaxInt-1, math.MaxInt)
}

// TestAddMakesCount: the one that makes count of them sends all, and the next one gathers anew; not so one ahead of it (13.1).
func TestAddMakesCount(t *testing.T) {
	for _, count := range []int{1, 2, 3, most - 1, most} {
		for _, window := range []int64{1, 10, last, longest} {
			b := of(t, count, window)
			run := 0
			for load := range 3 {
				at := int64(load) * 5
				due := min(uint64(at)+uint64(window), last)
				var waits []int
				for range count - 1 {
					run++
					add(t, b, at, run)
					waits = append(waits, run)
				}
				if count > 1 {
					same(t, b, load, int64(due), waits...)
				}
				run++
				add(t, b, at+1, run, append(waits, run)...)
				same(t, b, load+1, 0)
				stands(t, b, at+1, run)
			}
		}
	}
}

// TestAddWithoutWindow: each one is sent at once, whatever the count (13.1).
func TestAddWithoutWindow(t *testing.T) {
	for _, count := range []int{1, 2, 3, most} {
		b := of(t, count, 0)
		for i, run := range []int{1, 2, 3, 7, 50} {
			add(t, b, int64(i/2), run, run)
			same(t, b, i+1, 0)
			send(t, b, int64(i/2))
			force(t, b)
			same(t, b, i+1, 0)
		}
		stands(t, b, 2, 50)
		add(t, b, 2, math.MaxInt, math.MaxInt)
		same(t, b, 6, 0)
	}
}

// TestAddNoTick: a tick that may not be changes nothing, ahead of a run that may not be (13.1).
func TestAddNoTick(t *testing.T) {
	b := of(t, 3, 10)
	for _, now := range noTicks {
		noAdd(t, b, api.ErrTick, now, append(noRuns, 1, 2)...)
	}
	same(t, b, 0, 0)
	stands(t, b, 0, 0)
	add(t, b, 5, 2)
	add(t, b, 6, 3)
	for _, now := range noTicks {
		noAdd(t, b, api.ErrTick, now, append(noRuns, 1, 2, 3, 4)...)
	}
	same(t, b, 0, 15, 2, 3)
	stands(t, b, 6, 3)
	add(t, b, last, 4, 2, 3, 4)
	for _, now := range noTicks {
		noAdd(t, b, api.ErrTick, now, append(noRuns, 1, 4, 5)...)
	}
	add(t, b, last, 5)
	same(t, b, 1, last, 5)
}

// TestAddPast: below a tick that Add or Send told with OK, at it, and above it (13.1).
func TestAddPast(t *testing.T) {
	for _, at := range []int64{1, 2, 7, last - 1} {
		tell := []func(b *batch.Batch){
			func(b *batch.Batch) { add(t, b, at, 4) },
			func(b *batch.Batch) { add(t, b, 0, 3); add(t, b, at, 4) },
			func(b *batch.Batch) { add(t, b, 0, 4); send(t, b, at) },
			func(b *batch.Batch) { add(t, b, 0, 4); force(t, b, 4); send(t, b, at) },
			func(b *batch.Batch) { add(t, b, at, 4); force(t, b, 4) },
		}
		for _, each := range tell {
			b := of(t, 9, last)
			each(b)
			due, waits := b.Due()
			runs := b.Runs()
			if waits != (len(runs) > 0) {
				t.Fatalf("Due: %t, of %v", waits, runs)
			}
			noAdd(t, b, api.ErrPast, at-1, append(noRuns, 1, 4, 5)...)
			noAdd(t, b, api.ErrPast, 0, append(noRuns, 1, 4, 5)...)
			same(t, b, b.Sent(), due, runs...)
			add(t, b, at, 5)
			noAdd(t, b, api.ErrPast, at-1, 6)
			add(t, b, at+1, 6)
			noAdd(t, b, api.ErrPast, at, 7)
			add(t, b, at+1, 7)
			force(t, b, append(runs, 5, 6, 7)...)
		}
	}
}

// TestAddToldWithAnError: a tick that was told with an error is none that was told (13.1).
func TestAddToldWithAnError(t *testing.T) {
	b := of(t, 3, 10)
	noAdd(t, b, api.ErrArg, 9, noRuns...)
	noAdd(t, b, api.ErrTick, last+1, 1)
	noSend(t, b, api.ErrTick, last+1)
	stands(t, b, 0, 0)
	add(t, b, 2, 4)
	noAdd(t, b, api.ErrAdded, 9, 4, 3, 1)
	noAdd(t, b, api.ErrArg, last, noRuns...)
	noSend(t, b, api.ErrTick, last+1, longest)
	noSend(t, b, api.ErrPast, 1)
	noAdd(t, b, api.ErrPast, 1, 5)
	same(t, b, 0, 12, 4)
	stands(t, b, 2, 4)
	add(t, b, 2, 5)
	send(t, b, 12, 4, 5)
}

// TestAddWrongRun: 0 and below, ahead of all that were added (13.1).
func TestAddWrongRun(t *testing.T) {
	b := of(t, 3, 10)
	noAdd(t, b, api.ErrArg, 0, noRuns...)
	same(t, b, 0, 0)
	stands(t, b, 0, 0)
	add(t, b, 0, 1)
	add(t, b, 0, 2)
	noAdd(t, b, api.ErrArg, 0, noRuns...)
	noAdd(t, b, api.ErrArg, last, noRuns...)
	same(t, b, 0, 10, 1, 2)
	stands(t, b, 0, 2)
	for _, window := range []int64{0, 5} {
		b = of(t, 1, window)
		noAdd(t, b, api.ErrArg, 0, noRuns...)
		add(t, b, 0, 1, 1)
		noAdd(t, b, api.ErrArg, 0, noRuns...)
		same(t, b, 1, 0)
	}
}

// TestAddTwice: of a run that waits, was sent by Add, by Send or by Force, or was never added and is below one that was (13.1).
func TestAddTwice(t *testing.T) {
	b := of(t, 2, 10)
	add(t, b, 0, 5)
	noAdd(t, b, api.ErrAdded, 0, 5, 4, 1)
	same(t, b, 0, 10, 5)
	add(t, b, 0, 6, 5, 6)
	noAdd(t, b, api.ErrAdded, 0, 6, 5, 4, 1)
	same(t, b, 1, 0)
	add(t, b, 0, 8)
	send(t, b, 10, 8)
	noAdd(t, b, api.ErrAdded, 10, 8, 7, 6, 5, 4, 1)
	noAdd(t, b, api.ErrAdded, last, 8)
	same(t, b, 2, 0)
	add(t, b, 10, 9)
	force(t, b, 9)
	noAdd(t, b, api.ErrAdded, 10, 9, 8, 7, 1)
	same(t, b, 3, 0)
	stands(t, b, 10, 9)
	add(t, b, 10, 10)
	same(t, b, 3, 20, 10)
	for _, window := range []int64{0, 5} {
		b = of(t, 1, window)
		add(t, b, 0, 3, 3)
		noAdd(t, b, api.ErrAdded, 0, 3, 2, 1)
		same(t, b, 1, 0)
		add(t, b, 0, 4, 4)
	}
}
