package batch_test

import (
	"math/big"
	"math/rand"
	"slices"
	"testing"

	"convoy/api"
	"convoy/batch"
)

// added is a run, the tick at which it was added, and the load in which it was sent, 0 while it waits.
type added struct {
	run, load int
	at        int64
}

// plain is a batch as the chapter tells it, by a list of all that was done.
type plain struct {
	count  int
	window int64
	ticks  []int64 // those that were told with OK
	all    []added
	loads  int
}

// waits answers the runs that wait.
func (p *plain) waits() []int {
	var l []int
	for _, a := range p.all {
		if a.load == 0 {
			l = append(l, a.run)
		}
	}
	return l
}

// due answers when what waits is due, with numbers that have no bound.
func (p *plain) due() int64 {
	for _, a := range p.all {
		if a.load == 0 {
			sum := new(big.Int).Add(big.NewInt(a.at), big.NewInt(p.window))
			if sum.Cmp(big.NewInt(last)) > 0 {
				return last
			}
			return sum.Int64()
		}
	}
	return 0
}

// load sends all that wait.
func (p *plain) load() []int {
	l := p.waits()
	if len(l) == 0 {
		return nil
	}
	p.loads++
	for i := range p.all {
		if p.all[i].load == 0 {
			p.all[i].load = p.loads
		}
	}
	return l
}

// wrong answers the error of a tick.
func (p *plain) wrong(now int64) api.Errno {
	if now < 0 || now > last {
		return api.ErrTick
	}
	if slices.ContainsFunc(p.ticks, func(told int64) bool { return now < told }) {
		return api.ErrPast
	}
	return api.OK
}

func (p *plain) add(now int64, run int) ([]int, api.Errno) {
	if err := p.wrong(now); err != api.OK {
		return nil, err
	}
	if run < 1 {
		return nil, api.ErrArg
	}
	if slices.ContainsFunc(p.all, func(a added) bool { return a.run >= run }) {
		return nil, api.ErrAdded
	}
	p.ticks = append(p.ticks, now)
	p.all = append(p.all, added{run: run, at: now})
	if len(p.waits()) == p.count || p.window == 0 {
		return p.load(), api.OK
	}
	return nil, api.OK
}

func (p *plain) send(now int64) ([]int, api.Errno) {
	if err := p.wrong(now); err != api.OK {
		return nil, err
	}
	p.ticks = append(p.ticks, now)
	if now >= p.due() {
		return p.load(), api.OK
	}
	return nil, api.OK
}

func (p *plain) clone() *plain {
	twin := *p
	twin.ticks, twin.all = slices.Clone(p.ticks), slices.Clone(p.all)
	return &twin
}

// now answers a tick by lot, most often a little behind the last one that was told.
func (p *plain) now(lot *rand.Rand) int64 {
	var at int64
	if len(p.ticks) > 0 {
		at = p.ticks[len(p.ticks)-1]
	}
	switch lot.Intn(20) {
	case 0:
		return noTicks[lot.Intn(len(noTicks))]
	case 1:
		return at - 1 - lot.Int63n(3)
	case 2:
		return max(at, p.due())
	case 3:
		return max(at, p.due()-1)
	}
	return at + lot.Int63n(3)
}

// run answers a run by lot, most often the next one or one a little above.
func (p *plain) run(lot *rand.Rand) int {
	top := 0
	if len(p.all) > 0 {
		top = p.all[len(p.all)-1].run
	}
	switch lot.Intn(12) {
	case 0:
		return noRuns[lot.Intn(len(noRuns))]
	case 1:
		return top - lot.Intn(4)
	}
	return top + 1 + lot.Intn(3)/2
}

// step plays one step by lot on a batch and on a plain one.
func step(t *testing.T, lot *rand.Rand, b *batch.Batch, p *plain) {
	t.Helper()
	switch what := lot.Intn(100); {
	case what < 60:
		now, run := p.now(lot), p.run(lot)
		want, wrong := p.add(now, run)
		if got, err := b.Add(now, run); !slices.Equal(got, want) || err != wrong {
			t.Fatalf("Add(%d, %d): %v, %d, not %v, %d", now, run, got, err, want, wrong)
		}
	case what < 95:
		now := p.now(lot)
		want, wrong := p.send(now)
		if got, err := b.Send(now); !slices.Equal(got, want) || err != wrong {
			t.Fatalf("Send(%d): %v, %d, not %v, %d", now, got, err, want, wrong)
		}
	default:
		force(t, b, p.load()...)
	}
	same(t, b, p.loads, p.due(), p.waits()...)
}

// kinds is counts and windows, and the ticks at which they are played.
var kinds = []struct {
	count  int
	window int64
	from   int64
}{
	{1, 0, 0}, {1, 5, 0}, {2, 0, 0}, {2, 1, 0}, {2, 6, 0}, {3, 4, 0}, {5, 9, 0}, {5, 3, 1 << 40}, {40, 12, 0}, {most, 7, 0},
	{most, longest, 0}, {3, last, 0}, {4, 3, last - 40}, {9, 50, last - 60}, {3, longest, last - 30}, {2, last - 1, 0},
}

// TestLikePlain plays steps by lot on batches, their clones and plain ones (13.1 to 13.3).
func TestLikePlain(t *testing.T) {
	lot := rand.New(rand.NewSource(13))
	for _, kind := range kinds {
		for range 20 {
			batches, plains := []*batch.Batch{of(t, kind.count, kind.window)}, []*plain{{count: kind.count, window: kind.window}}
			if kind.from > 0 {
				plains[0].send(kind.from)
				send(t, batches[0], kind.from)
			}
			for range 200 {
				i := lot.Intn(len(batches))
				step(t, lot, batches[i], plains[i])
				if len(batches) < 4 && lot.Intn(40) == 0 {
					batches, plains = append(batches, batches[i].Clone()), append(plains, plains[i].clone())
				}
			}
			for i, b := range batches {
				same(t, b, plains[i].loads, plains[i].due(), plains[i].waits()...)
			}
		}
	}
}

// TestSentOnce: each run is sent once, in the order in which they were added, in loads of at most count, all but what waits (13.4).
func TestSentOnce(t *testing.T) {
	lot := rand.New(rand.NewSource(134))
	for _, kind := range kinds {
		b := of(t, kind.count, kind.window)
		var in, out []int
		loads, now, run := 0, int64(0), 0
		sent := func(load []int) {
			if len(load) > kind.count {
				t.Fatalf("a load of %d, not of %d", len(load), kind.count)
			}
			if len(load) > 0 {
				loads++
			}
			out = append(out, load...)
		}
		for range 1500 {
			now += lot.Int63n(2)
			run += 1 + lot.Intn(2)
			load, _ := b.Add(now, run)
			in = append(in, run)
			sent(load)
			// What was sent once is not taken again.
			noAdd(t, b, api.ErrAdded, now, in[lot.Intn(len(in))])
			if lot.Intn(5) == 0 {
				load, _ = b.Send(now)
				sent(load)
			}
			if lot.Intn(90) == 0 {
				sent(b.Force())
			}
			if got := slices.Concat(out, b.Runs()); !slices.Equal(got, in) {
				t.Fatalf("sent and waiting: %v, not %v", got, in)
			}
		}
		if b.Sent() != loads {
			t.Fatalf("Sent: %d, not %d", b.Sent(), loads)
		}
	}
}

// TestNothingWaitsBeyond: if Send is called at each due tick, nothing is ever due in the past, and all is sent there (13.4).
func TestNothingWaitsBeyond(t *testing.T) {
	lot := rand.New(rand.NewSource(1304))
	for _, kind := range kinds {
		b := of(t, kind.count, kind.window)
		now, run := kind.from, 0
		for range 500 {
			to := min(now+lot.Int63n(4), last)
			if due, waits := b.Due(); waits && due <= to {
				send(t, b, due, b.Runs()...)
				if _, waits := b.Due(); waits {
					t.Fatalf("something waits behind Send(%d)", due)
				}
			}
			now = to
			run++
			if _, err := b.Add(now, run); err != api.OK {
				t.Fatalf("Add(%d, %d): %d", now, run, err)
			}
			if due, waits := b.Due(); waits && due < now {
				t.Fatalf("due at %d, and it is %d", due, now)
			}
		}
	}
}
