package record_test

import (
	"math/rand"
	"runtime"
	"slices"
	"testing"

	"convoy/api"
	"convoy/record"
)

// TestExamples: the chapter's.
func TestExamples(t *testing.T) {
	k := api.Key{Space: 1, Name: "k"}
	first := api.Run{Run: 1, Key: k}
	r := begin(t, first, 5)
	join(t, r, 6)
	noJoin(t, r, api.ErrWaiting, 6)
	leave(t, r, 5)
	leaveLast(t, r, 6)
	noJoin(t, r, api.ErrLeft, 7)
	end(t, r, value(3))
	same(t, r, over(first, true, value(3)))

	second := api.Run{Run: 2, Key: k, Refresh: true}
	r = begin(t, second, 0)
	same(t, r, state{run: second, interest: 1})
	release(t, r, true)
	same(t, r, state{run: second, cancelled: true})
}

// plain is a record as the chapter tells it: a list that is searched, and the token asked of it where it is in progress.
type plain struct {
	state
	entry bool
}

func (p *plain) count() {
	p.interest = len(p.waiters)
	if p.entry {
		p.interest++
	}
	if p.interest == 0 {
		p.cancelled = true
	}
}

func (p *plain) join(caller int) api.Errno {
	if caller < 1 {
		return api.ErrArg
	}
	if p.ended {
		return api.ErrEnded
	}
	if p.cancelled {
		return api.ErrLeft
	}
	if slices.Contains(p.waiters, caller) {
		return api.ErrWaiting
	}
	p.waiters = append(slices.Clone(p.waiters), caller)
	p.count()
	return api.OK
}

func (p *plain) leave(caller int) (bool, api.Errno) {
	if p.ended {
		return false, api.ErrEnded
	}
	place := slices.Index(p.waiters, caller)
	if place < 0 {
		return false, api.ErrAway
	}
	p.waiters = slices.Delete(slices.Clone(p.waiters), place, place+1)
	p.count()
	return p.cancelled, api.OK
}

func (p *plain) release() bool {
	if !p.entry || p.ended {
		return false
	}
	p.entry = false
	p.count()
	return p.cancelled
}

func (p *plain) end(o api.Outcome) ([]api.Told, api.Errno) {
	if p.ended {
		return nil, api.ErrEnded
	}
	if slices.Contains(noOutcomes, o) {
		return nil, api.ErrFail
	}
	all := told(o, p.waiters...)
	p.state = over(p.run, p.cancelled, o)
	return all, api.OK
}

// step plays one step by lot on a record and on a plain one.
func step(t *testing.T, lot *rand.Rand, r *record.Record, p *plain) {
	t.Helper()
	caller := lot.Intn(14) - 1
	switch what := lot.Intn(100); {
	case what < 50:
		if got, want := r.Join(caller), p.join(caller); got != want {
			t.Fatalf("Join(%d): %d, not %d", caller, got, want)
		}
	case what < 93:
		want, wrong := p.leave(caller)
		if got, err := r.Leave(caller); got != want || err != wrong {
			t.Fatalf("Leave(%d): %t, %d, not %t, %d", caller, got, err, want, wrong)
		}
	case what < 97:
		release(t, r, p.release())
	default:
		o := slices.Concat(outcomes, noOutcomes)[lot.Intn(len(outcomes)+len(noOutcomes))]
		want, wrong := p.end(o)
		if got, err := r.End(o); !slices.Equal(got, want) || err != wrong {
			t.Fatalf("End(%v): %v, %d, not %v, %d", o, got, err, want, wrong)
		}
	}
}

// lotOf begins a record and a plain one by lot.
func lotOf(t *testing.T, lot *rand.Rand) (*record.Record, *plain) {
	t.Helper()
	if lot.Intn(2) == 0 {
		return refresh(t), &plain{state: kept(), entry: true}
	}
	caller := lot.Intn(12) + 1
	return of(t, caller), &plain{state: waited(caller)}
}

// TestLikePlain plays steps by lot on records, their clones and plain ones (11.1 to 11.4).
func TestLikePlain(t *testing.T) {
	lot := rand.New(rand.NewSource(11))
	for range 400 {
		r, p := lotOf(t, lot)
		records, plains := []*record.Record{r}, []*plain{p}
		for range 120 {
			i := lot.Intn(len(records))
			step(t, lot, records[i], plains[i])
			same(t, records[i], plains[i].state)
			if len(records) < 4 && lot.Intn(30) == 0 {
				twin := *plains[i]
				records, plains = append(records, records[i].Clone()), append(plains, &twin)
			}
		}
		for i, r := range records {
			same(t, r, plains[i].state)
		}
	}
}

// TestFollows: all who wait at the end are told the same, once each, and who left is not told (11.5, T4); the token is cancelled only where nobody is interested, and is there (T3).
func TestFollows(t *testing.T) {
	lot := rand.New(rand.NewSource(115))
	for range 300 {
		r, _ := lotOf(t, lot)
		waits := map[int]int{}
		for _, caller := range r.Waiters() {
			waits[caller]++
		}
		for range lot.Intn(60) {
			caller := lot.Intn(12) + 1
			if lot.Intn(3) > 0 {
				if r.Join(caller) == api.OK {
					waits[caller]++
				}
			} else if _, err := r.Leave(caller); err == api.OK {
				delete(waits, caller)
			}
			if lot.Intn(50) == 0 {
				r.Release()
			}
			if r.Cancelled() != (r.Interest() == 0) || r.Cancelled() && len(waits) > 0 {
				t.Fatalf("Cancelled: %t, Interest: %d, of %v", r.Cancelled(), r.Interest(), waits)
			}
		}
		order, o := r.Waiters(), outcomes[lot.Intn(len(outcomes))]
		all, err := r.End(o)
		if err != api.OK || len(all) != len(waits) || !slices.Equal(all, told(o, order...)) {
			t.Fatalf("End(%v): %v, %d, of %v", o, all, err, order)
		}
		for _, one := range all {
			if waits[one.Caller] != 1 || one.Outcome != o {
				t.Fatalf("%v is told, of %v", one, waits)
			}
			delete(waits, one.Caller)
		}
		if len(waits) != 0 {
			t.Fatalf("not told: %v", waits)
		}
	}
}

// many is so many that a search for each one who leaves would not end in time.
const many = 1 << 19

// TestMany: as many as there are wait in order, leave from ahead, from behind and between, and are told (11.2, 11.3).
func TestMany(t *testing.T) {
	r := of(t, 1)
	for caller := 2; caller <= many; caller++ {
		r.Join(caller)
	}
	var left []int
	for caller := 1; caller <= many; caller++ {
		if caller > many/4 && caller%5 != 0 {
			left = append(left, caller)
		} else if is, err := r.Leave(caller); is || err != api.OK {
			t.Fatalf("Leave(%d): %t, %d", caller, is, err)
		}
	}
	if got := r.Waiters(); !slices.Equal(got, left) || r.Interest() != len(left) {
		t.Fatalf("%d wait, not %d", len(got), len(left))
	}
	for i := len(left) - 1; i >= 10; i-- {
		if is, err := r.Leave(left[i]); is || err != api.OK {
			t.Fatalf("Leave(%d): %t, %d", left[i], is, err)
		}
	}
	same(t, r, state{run: asked, waiters: left[:10], interest: 10})
	end(t, r, value(1), left[:10]...)
}

// weight is how many bytes a clone of a record takes.
func weight(r *record.Record) uint64 {
	var before, after runtime.MemStats
	runtime.ReadMemStats(&before)
	twin := r.Clone()
	runtime.ReadMemStats(&after)
	runtime.KeepAlive(twin)
	return after.TotalAlloc - before.TotalAlloc
}

// TestManyComeAndGo: one who waits all the time stays the first, however many come and go behind it, and nothing is kept of those (11.2, 11.3).
func TestManyComeAndGo(t *testing.T) {
	r := of(t, 5)
	for caller := 6; caller < many; caller++ {
		join(t, r, caller)
		leave(t, r, caller)
	}
	if bytes := weight(r); bytes > many/8 {
		t.Errorf("one waits, and the record takes %d bytes", bytes)
	}
	join(t, r, 9, 7)
	same(t, r, waited(5, 9, 7))
}
