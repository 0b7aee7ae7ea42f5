package table_test

import (
	"maps"
	"math/rand"
	"runtime"
	"slices"
	"testing"

	"convoy/api"
	"convoy/table"
)

// TestExamples: the chapter's.
func TestExamples(t *testing.T) {
	x := of(t, 2)
	begin(t, x, 1, a, 5)
	noBegin(t, x, api.ErrCurrent, a, false, 6)
	join(t, x, 1, 6)
	forget(t, x, a, 1, 1)
	begin(t, x, 2, a, 7)
	noBegin(t, x, api.ErrBusy, b, false, 8)
	leave(t, x, 1, still, 5)
	leave(t, x, 1, cancelled, 6)
	leave(t, x, 2, both, 7)
	same(t, x, on(2, asked(1, a, 0).left(), asked(2, a, 1).left()).gen(a, 2))
}

// plainRun is a run as chapter 11 tells it.
type plainRun struct {
	api.Run
	waiters          []int
	entry, cancelled bool
}

// plain is a table as the chapter tells it: a list of runs that is searched, and what is current asked of the generations.
type plain struct {
	flight, begun int
	runs          []plainRun
	generations   map[api.Key]int
}

func (p *plain) place(run int) int {
	return slices.IndexFunc(p.runs, func(r plainRun) bool { return r.Run.Run == run })
}

func (p *plain) current(r plainRun) bool { return r.Generation == p.generations[r.Key] }

func (p *plain) currentOf(k api.Key) int {
	for _, r := range p.runs {
		if r.Key == k && p.current(r) {
			return r.Run.Run
		}
	}
	return 0
}

func (p *plain) begin(k api.Key, caller int, refresh bool) (int, api.Errno) {
	if len(k.Name) > 64 {
		return 0, api.ErrKey
	}
	if refresh && caller != 0 || !refresh && caller <= 0 {
		return 0, api.ErrArg
	}
	if p.currentOf(k) != 0 {
		return 0, api.ErrCurrent
	}
	if len(p.runs) == p.flight {
		return 0, api.ErrBusy
	}
	p.begun++
	r := plainRun{Run: api.Run{Run: p.begun, Key: k, Generation: p.generations[k], Refresh: refresh}, entry: refresh}
	if !refresh {
		r.waiters = []int{caller}
	}
	p.runs = append(p.runs, r)
	return p.begun, api.OK
}

func (p *plain) join(run, caller int) api.Errno {
	place := p.place(run)
	if place < 0 {
		return api.ErrRun
	}
	r := &p.runs[place]
	if caller < 1 {
		return api.ErrArg
	}
	if r.cancelled {
		return api.ErrLeft
	}
	if slices.Contains(r.waiters, caller) {
		return api.ErrWaiting
	}
	r.waiters = append(slices.Clone(r.waiters), caller)
	return api.OK
}

func (p *plain) look(r *plainRun) api.Gone {
	if len(r.waiters) > 0 || r.entry || r.cancelled {
		return api.Gone{}
	}
	r.cancelled = true
	if !p.current(*r) {
		return api.Gone{Cancelled: true}
	}
	p.generations[r.Key]++
	return api.Gone{Cancelled: true, Abandoned: true}
}

func (p *plain) leave(run, caller int) (api.Gone, api.Errno) {
	place := p.place(run)
	if place < 0 {
		return api.Gone{}, api.ErrRun
	}
	r := &p.runs[place]
	if !slices.Contains(r.waiters, caller) {
		return api.Gone{}, api.ErrAway
	}
	r.waiters = slices.DeleteFunc(slices.Clone(r.waiters), func(c int) bool { return c == caller })
	return p.look(r), api.OK
}

func (p *plain) release(run int) (api.Gone, api.Errno) {
	place := p.place(run)
	if place < 0 {
		return api.Gone{}, api.ErrRun
	}
	p.runs[place].entry = false
	return p.look(&p.runs[place]), api.OK
}

func (p *plain) forget(k api.Key) (int, int, api.Errno) {
	if len(k.Name) > 64 {
		return 0, 0, api.ErrKey
	}
	run := p.currentOf(k)
	p.generations[k]++
	return p.generations[k], run, api.OK
}

func (p *plain) end(run int, o api.Outcome) ([]api.Told, bool, api.Errno) {
	place := p.place(run)
	if place < 0 {
		return nil, false, api.ErrRun
	}
	if slices.Contains(noOutcomes, o) {
		return nil, false, api.ErrFail
	}
	r := p.runs[place]
	p.runs = slices.Delete(slices.Clone(p.runs), place, place+1)
	return told(o, r.waiters...), p.current(r), api.OK
}

func (p *plain) clone() *plain {
	twin := *p
	twin.runs, twin.generations = slices.Clone(p.runs), maps.Clone(p.generations)
	return &twin
}

// state is what a table should say of itself that is like a plain one.
func (p *plain) state() state {
	s := state{begun: p.begun, generations: p.generations}
	for _, r := range p.runs {
		s.runs = append(s.runs, one{run: r.Run, waiters: r.waiters, cancelled: r.cancelled, current: p.current(r)})
	}
	return s
}

// stepBegin begins a run by lot.
func stepBegin(t *testing.T, lot *rand.Rand, x *table.Table, p *plain, k api.Key) {
	t.Helper()
	caller, refresh := lot.Intn(8)-1, lot.Intn(3) == 0
	if refresh && lot.Intn(6) > 0 {
		caller = 0
	}
	want, wrong := p.begin(k, caller, refresh)
	if got, err := x.Begin(k, caller, refresh); got != want || err != wrong {
		t.Fatalf("Begin(%v, %d, %t): %d, %d, not %d, %d", k, caller, refresh, got, err, want, wrong)
	}
}

// stepEnd ends a run by lot.
func stepEnd(t *testing.T, lot *rand.Rand, x *table.Table, p *plain, run int) {
	t.Helper()
	o := slices.Concat(outcomes, noOutcomes)[lot.Intn(len(outcomes)+len(noOutcomes))]
	want, current, wrong := p.end(run, o)
	if got, was, err := x.End(run, o); !slices.Equal(got, want) || was != current || err != wrong {
		t.Fatalf("End(%d, %v): %v, %t, %d, not %v, %t, %d", run, o, got, was, err, want, current, wrong)
	}
}

// step plays one step by lot on a table and on a plain one.
func step(t *testing.T, lot *rand.Rand, x *table.Table, p *plain) {
	t.Helper()
	k := slices.Concat(keys, keys, noKeys[:1])[lot.Intn(2*len(keys)+1)]
	// Most of the runs that are tried are among the last ones, where those in progress are.
	run, caller := max(p.begun-6, 0)+lot.Intn(8), lot.Intn(8)-1
	switch what := lot.Intn(100); {
	case what < 25:
		stepBegin(t, lot, x, p, k)
	case what < 50:
		if got, want := x.Join(run, caller), p.join(run, caller); got != want {
			t.Fatalf("Join(%d, %d): %d, not %d", run, caller, got, want)
		}
	case what < 80:
		want, wrong := p.leave(run, caller)
		if got, err := x.Leave(run, caller); got != want || err != wrong {
			t.Fatalf("Leave(%d, %d): %+v, %d, not %+v, %d", run, caller, got, err, want, wrong)
		}
	case what < 85:
		want, wrong := p.release(run)
		if got, err := x.Release(run); got != want || err != wrong {
			t.Fatalf("Release(%d): %+v, %d, not %+v, %d", run, got, err, want, wrong)
		}
	case what < 90:
		generation, current, wrong := p.forget(k)
		if g, r, err := x.Forget(k); g != generation || r != current || err != wrong {
			t.Fatalf("Forget(%v): %d, %d, %d, not %d, %d, %d", k, g, r, err, generation, current, wrong)
		}
	default:
		stepEnd(t, lot, x, p, run)
	}
}

// TestLikePlain plays steps by lot on tables, their clones and plain ones (12.1 to 12.4).
func TestLikePlain(t *testing.T) {
	lot := rand.New(rand.NewSource(12))
	for range 150 {
		flight := lot.Intn(7) + 1
		tables, plains := []*table.Table{of(t, flight)}, []*plain{{flight: flight, generations: map[api.Key]int{}}}
		for range 250 {
			i := lot.Intn(len(tables))
			step(t, lot, tables[i], plains[i])
			same(t, tables[i], plains[i].state())
			if len(tables) < 4 && lot.Intn(60) == 0 {
				tables, plains = append(tables, tables[i].Clone()), append(plains, plains[i].clone())
			}
		}
		for i, x := range tables {
			same(t, x, plains[i].state())
		}
	}
}

// generations is the generation of each key.
func generations(x *table.Table) []int {
	var l []int
	for _, k := range keys {
		l = append(l, x.Generation(k))
	}
	return l
}

// bounds looks that no two runs in progress have one key and generation, that no more than flight are in progress, and that current ones are of their key's generation, and were not left (T1, T5).
func bounds(t *testing.T, x *table.Table, flight int) {
	t.Helper()
	type place struct {
		key        api.Key
		generation int
	}
	taken, current := map[place]int{}, 0
	for _, run := range x.Progress() {
		r, _ := x.Run(run)
		at := place{r.Key, r.Generation}
		if other, is := taken[at]; is {
			t.Fatalf("%d and %d are in progress, both of %+v", other, run, at)
		}
		taken[at] = run
		if x.IsCurrent(run) != (r.Generation == x.Generation(r.Key)) {
			t.Fatalf("IsCurrent(%d): %t, of %+v", run, x.IsCurrent(run), at)
		}
		if x.IsCurrent(run) {
			current++
		}
		if x.Cancelled(run) && (x.IsCurrent(run) || x.Join(run, 5) != api.ErrLeft) {
			t.Fatalf("%d was left, and is current, or is joined", run)
		}
	}
	if len(taken) > flight || len(x.Currents()) != current {
		t.Fatalf("%d are in progress, with %d current ones, not %d", len(taken), len(x.Currents()), current)
	}
}

// TestFollows: at every point the bounds hold, and a generation goes on only by Forget, or when a current run is abandoned (12.6; T1, T5).
func TestFollows(t *testing.T) {
	lot := rand.New(rand.NewSource(126))
	for range 100 {
		flight := lot.Intn(5) + 1
		x := of(t, flight)
		for range 200 {
			ahead, k := generations(x), keys[lot.Intn(len(keys))]
			run, caller := max(x.Begun()-5, 0)+lot.Intn(7), lot.Intn(4)
			r, _ := x.Run(run)
			var gone api.Gone
			switch lot.Intn(9) {
			case 0, 1:
				x.Begin(k, caller, caller == 0)
			case 2, 3:
				x.Join(run, caller)
			case 4, 5:
				gone, _ = x.Leave(run, caller)
			case 6:
				x.End(run, outcomes[lot.Intn(len(outcomes))])
			case 7:
				gone, _ = x.Release(run)
			case 8:
				x.Forget(k)
				ahead[slices.Index(keys, k)]++
			}
			if gone.Abandoned {
				ahead[slices.Index(keys, r.Key)]++
			}
			bounds(t, x, flight)
			if got := generations(x); !slices.Equal(got, ahead) {
				t.Fatalf("the generations: %v, not %v", got, ahead)
			}
		}
	}
}

// many is so many that a search through what has been would not end in time.
const many = 1 << 18

// TestManyRuns: as many as there are begin and end, some of them out of turn, and nothing is kept of those that ended (12.3, 12.4).
func TestManyRuns(t *testing.T) {
	x := of(t, api.MaxFlight)
	name := func(run int) api.Key { return api.Key{Space: uint16(run % 50000), Name: "m"} }
	for run := 1; run <= api.MaxFlight; run++ {
		begin(t, x, run, name(run), 5)
	}
	for run := api.MaxFlight + 1; run <= many; run++ {
		ended := run - api.MaxFlight
		end(t, x, ended, value(1), true, 5)
		begin(t, x, run, name(run), 5)
	}
	runs := x.Progress()
	if len(runs) != api.MaxFlight || !slices.IsSorted(runs) || runs[0] != many-api.MaxFlight+1 || runs[len(runs)-1] != many {
		t.Fatalf("in progress: %d, %d to %d", len(runs), runs[0], runs[len(runs)-1])
	}
	for _, run := range runs {
		end(t, x, run, value(1), true, 5)
	}
	if got := x.Begun(); got != many || len(x.Currents()) != 0 || len(x.Progress()) != 0 {
		t.Fatalf("begun: %d, in progress: %v", got, x.Progress())
	}
}

// weight is how many bytes a clone of a table takes.
func weight(x *table.Table) uint64 {
	var before, after runtime.MemStats
	runtime.ReadMemStats(&before)
	twin := x.Clone()
	runtime.ReadMemStats(&after)
	runtime.KeepAlive(twin)
	return after.TotalAlloc - before.TotalAlloc
}

// TestNothingIsKeptOfWhatEnded: but the generations of those keys that went on (12.3, 12.4).
func TestNothingIsKeptOfWhatEnded(t *testing.T) {
	x := of(t, 2)
	for run := 1; run <= 60000; run++ {
		begin(t, x, run, api.Key{Space: uint16(run), Name: "n"}, 5)
		end(t, x, run, value(1), true, 5)
	}
	if bytes := weight(x); bytes > 60000 {
		t.Errorf("nothing is in progress, and the table takes %d bytes", bytes)
	}
}

// TestManyGenerations: each of many keys has its own, however often it went on (12.3, 12.4).
func TestManyGenerations(t *testing.T) {
	x := of(t, 1)
	for round := 1; round <= 4; round++ {
		for space := range 1 << 16 {
			forget(t, x, api.Key{Space: uint16(space)}, round, 0)
		}
	}
	for space := range 1 << 16 {
		if got := x.Generation(api.Key{Space: uint16(space)}); got != 4 {
			t.Fatalf("the generation of %d: %d", space, got)
		}
	}
}
