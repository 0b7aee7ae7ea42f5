package world_test

import (
	"fmt"
	"slices"
	"testing"

	"convoy/api"
	"convoy/world"
)

// audit goes over events, and looks whether what the document promises of the whole holds at each of them.
type audit struct {
	config      api.Config
	generations map[api.Key]int
	runs        map[int]*audited
	progress    int
	entries     map[api.Key]api.Event // of each key its Keep
	used        map[api.Key]int       // all keys that somebody asked for
	fresh       map[api.Key]int64     // of each key the tick until which no run may begin
	begun       api.Event             // the Begin just ahead, else none
}

// audited is a run.
type audited struct {
	begin            api.Event
	waiters          []int
	released         bool // the entry of a refresh counts no more
	cancelled, ended bool
	current          bool // at its end
	forgotten        bool // its key was forgotten since it was begun
	outcome          api.Outcome
}

func newAudit(config api.Config) *audit {
	return &audit{config: config, generations: map[api.Key]int{}, runs: map[int]*audited{}, entries: map[api.Key]api.Event{},
		used: map[api.Key]int{}, fresh: map[api.Key]int64{}}
}

// interest is how many wait for a run, its entry with them.
func (x *audit) interest(r *audited) int {
	if r.begin.How == 1 && !r.released {
		return len(r.waiters) + 1
	}
	return len(r.waiters)
}

// current is the current run of a key, nil if there is none.
func (x *audit) current(k api.Key) *audited {
	for _, r := range x.runs {
		if !r.ended && r.begin.Key == k && r.begin.Generation == x.generations[k] {
			return r
		}
	}
	return nil
}

// isFresh is whether the entry of a key is so at a tick.
func (x *audit) isFresh(k api.Key, now int64) bool {
	e, kept := x.entries[k]
	if e.Outcome.Fail == (api.Fail{}) {
		return kept && now-e.At < x.config.TTL
	}
	return kept && now-e.At < x.config.Negative
}

// see goes over one event.
func (x *audit) see(e api.Event) bool {
	ahead := x.begun
	x.begun = api.Event{}
	r := x.runs[e.Run]
	switch e.Kind {
	case api.EventBegin:
		return x.begins(e)
	case api.EventJoin:
		return x.joins(e, ahead)
	case api.EventSend:
		return r != nil
	case api.EventTell:
		was := len(r.waiters)
		r.leave(e.Caller)
		return r.ended && e.Outcome == r.outcome && e.Key == r.begin.Key && len(r.waiters) == was-1
	case api.EventLeave:
		was := len(r.waiters)
		r.leave(e.Caller)
		return !r.ended && e.Outcome == cancelled && e.Key == r.begin.Key && len(r.waiters) == was-1
	case api.EventEnd:
		return x.ends(e, r)
	case api.EventCancel:
		was := r.cancelled
		r.cancelled = true
		return !was && !r.ended && x.interest(r) == 0 && e.Key == r.begin.Key && e.Generation == r.begin.Generation
	case api.EventAbandon:
		x.generations[e.Key]++
		return r.cancelled && !r.ended && e.Key == r.begin.Key && e.Generation == r.begin.Generation+1 && e.Generation == x.generations[e.Key]
	case api.EventForget:
		return x.forgets(e)
	case api.EventKeep:
		x.entries[e.Key] = e
		return r.ended && r.current && e.Outcome == r.outcome
	}
	_, kept := x.entries[e.Key]
	delete(x.entries, e.Key)
	for _, other := range x.runs {
		other.released = other.released || other.begin.Key == e.Key
	}
	return e.Kind == api.EventDrop && kept
}

func (r *audited) leave(caller int) {
	r.waiters = slices.DeleteFunc(slices.Clone(r.waiters), func(n int) bool { return n == caller })
}

// begins: T1, T5, T6.
func (x *audit) begins(e api.Event) bool {
	x.begun = e
	right := x.runs[e.Run] == nil && x.current(e.Key) == nil && e.Generation == x.generations[e.Key] && !x.isFresh(e.Key, e.At)
	// T6 holds while no more keys have been used than may be kept.
	x.used[e.Key]++
	if until, kept := x.fresh[e.Key]; kept && len(x.used) <= x.config.Entries {
		right = right && e.At >= until
	}
	x.runs[e.Run] = &audited{begin: e}
	x.progress++
	return right && x.progress <= x.config.Flight
}

// joins: T2, T5.
func (x *audit) joins(e, ahead api.Event) bool {
	x.used[e.Key]++
	entry, kept := x.entries[e.Key]
	current := x.current(e.Key)
	// A run begins ahead of the Join that leads it, or that is told what is stale.
	if ahead.Kind != 0 && (ahead.Key != e.Key || e.How != api.HowLed && e.How != api.HowStale) {
		return false
	}
	switch e.How {
	case api.HowHit:
		return x.isFresh(e.Key, e.At) && e.Outcome == entry.Outcome
	case api.HowStale:
		age := e.At - entry.At
		return kept && current != nil && e.Outcome == entry.Outcome && entry.Outcome.Fail == api.Fail{} && age >= x.config.TTL && age < x.config.TTL+x.config.Stale
	case api.HowBusy:
		return x.progress == x.config.Flight && current == nil && e.Outcome.Fail == api.Fail{Kind: api.FailBusy}
	case api.HowCancel:
		return e.Outcome == cancelled
	}
	r := x.runs[e.Run]
	if r == nil || r != current || r.cancelled || (e.How == api.HowLed) != (ahead.Run == e.Run) {
		return false
	}
	r.waiters = append(slices.Clone(r.waiters), e.Caller)
	return e.Outcome == api.Outcome{}
}

func (x *audit) ends(e api.Event, r *audited) bool {
	right := !r.ended && e.Key == r.begin.Key && e.Generation == r.begin.Generation
	r.current = e.Generation == x.generations[e.Key]
	r.ended, r.outcome = true, e.Outcome
	x.progress--
	if r.current && !r.forgotten && e.Outcome.Fail == (api.Fail{}) {
		x.fresh[e.Key] = e.At + x.config.TTL
	}
	return right
}

func (x *audit) forgets(e api.Event) bool {
	x.generations[e.Key]++
	delete(x.fresh, e.Key)
	for _, r := range x.runs {
		r.forgotten = r.forgotten || r.begin.Key == e.Key
	}
	return e.Generation == x.generations[e.Key]
}

// look looks at a world behind a turn whose events have been gone over (T3 to T5).
func (x *audit) look(w *world.World) error {
	if len(x.entries) > x.config.Entries || len(w.Group().Entries()) != len(x.entries) {
		return fmt.Errorf("%d entries", len(x.entries))
	}
	var currents []api.Key
	for _, r := range w.Group().Currents() {
		currents = append(currents, r.Key)
	}
	for run, r := range x.runs {
		switch {
		case r.ended && len(r.waiters) > 0:
			return fmt.Errorf("the run %d has ended, and %v wait", run, r.waiters)
		case !r.ended && x.interest(r) == 0 && !r.cancelled:
			return fmt.Errorf("nobody waits for the run %d", run)
		case !r.ended && w.Group().Cancelled(run) != r.cancelled:
			return fmt.Errorf("whether the run %d is cancelled is not told", run)
		case x.current(r.begin.Key) == r && !slices.Contains(currents, r.begin.Key):
			return fmt.Errorf("the run %d is not in the table", run)
		}
	}
	if len(w.Ready()) > 0 {
		return nil
	}
	return x.rests(w)
}

// rests looks at a world in which nobody is ready: timers are armed just for who sleeps and for a load that gathers.
func (x *audit) rests(w *world.World) error {
	sleep := 0
	for _, l := range w.Loads() {
		if l.Wait == api.WaitSleep {
			sleep++
		}
		if !l.Ended && l.Wait == api.WaitNone {
			return fmt.Errorf("the load %d is not ready", l.Task)
		}
	}
	if len(w.Group().Gathers()) > 0 {
		sleep++
	}
	if n := len(w.Armed()); n < sleep || w.Quiet() != (n == 0) {
		return fmt.Errorf("%d timers are armed, %d loads need one", n, sleep)
	}
	return nil
}

// TestPromisesOfTheWhole: T1 to T6, by lot, event by event and turn by turn (23.5).
func TestPromisesOfTheWhole(t *testing.T) {
	for seed := range int64(6000) {
		script := newLots(1000000 + seed).script()
		w, x, seen := open(t, script), newAudit(script.Config), 0
		for more := true; more; more = w.Turn() {
			all := w.Events()
			for ; seen < len(all); seen++ {
				if !x.see(all[seen]) {
					t.Fatalf("%d: %+v: at %d:\n%v", seed, script, seen, lines(all[:seen+1]))
				}
			}
			if err := x.look(w); err != nil {
				t.Fatalf("%d: %+v: behind %d turns: %v", seed, script, w.Turns(), err)
			}
		}
	}
}

// TestWhoWaits: who waits when it is quiet waits for a run whose load waits at a gate; all others are at their end (23.5).
func TestWhoWaits(t *testing.T) {
	waiting := 0
	for seed := range int64(3000) {
		script := newLots(2000000 + seed).script()
		w := open(t, script)
		w.Go(1 << 40)
		for n := range script.Clients {
			caller, ok := w.Waits(n)
			if !ok {
				free(t, w, n, true)
				continue
			}
			waiting++
			at := slices.IndexFunc(w.Events(), func(e api.Event) bool { return e.Kind == api.EventJoin && e.Caller == caller && e.Client == n+1 })
			run := w.Events()[at].Run
			if !slices.Contains(w.Group().Waiters(run), caller) || !slices.ContainsFunc(w.Loads(), func(l api.Standing) bool {
				return l.Wait == api.WaitGate && !l.Ended && slices.Contains(l.Runs, run)
			}) {
				t.Fatalf("%d: the client %d waits for the run %d", seed, n, run)
			}
		}
	}
	if waiting < 500 {
		t.Fatalf("only %d wait", waiting)
	}
}

// same looks that two worlds have gone the same way.
func same(t *testing.T, what string, x, y *world.World) {
	t.Helper()
	if !slices.Equal(x.Events(), y.Events()) || !slices.Equal(x.Told(), y.Told()) || x.Turns() != y.Turns() || x.Now() != y.Now() || !slices.Equal(stand(x), stand(y)) {
		t.Fatalf("%s: not the same", what)
	}
	for n := range 6 {
		caller, ok := x.Waits(n)
		other, also := y.Waits(n)
		if !slices.Equal(x.Log(n), y.Log(n)) || x.Ended(n) != y.Ended(n) || caller != other || ok != also {
			t.Fatalf("%s: not the same of the client %d", what, n)
		}
	}
}

// TestPlaysTheSame: the same script does, and with Told as the schedule, whatever the policy and the seed (23.5).
func TestPlaysTheSame(t *testing.T) {
	for seed := range int64(1500) {
		lot := newLots(3000000 + seed)
		script := lot.script()
		w := open(t, script)
		w.Go(1 << 40)
		again := open(t, script)
		for again.Turn() {
		}
		same(t, "the same script", w, again)
		for policy := range 5 {
			other := script
			other.Policy, other.Seed, other.Picks = policy, lot.Uint64(), w.Told()
			x := open(t, other)
			x.Go(1 << 40)
			same(t, fmt.Sprintf("by Told, with the policy %d", policy), w, x)
		}
	}
}

// tame is a script by lot without gates, tokens and forgetting, whose keys have one recipe each that names no run, and in which nobody is told busy.
func (l *lots) tame() api.Script {
	s := l.script()
	s.Config.Flight, s.Picks, s.Recipes = 4096, nil, nil
	for _, k := range l.keys {
		r := api.Recipe{Key: k}
		for range l.Intn(6) {
			step := l.step()
			untamed := []int{api.StepGate, api.StepRun, api.StepFail, api.StepPanic}
			if !slices.Contains(untamed, step.Op) && (step.Op != api.StepSkip || step.A < 3) {
				r.Steps = append(r.Steps, step)
			}
		}
		s.Recipes = append(s.Recipes, r)
	}
	for n, program := range s.Clients {
		s.Clients[n] = slices.DeleteFunc(program, func(do api.Do) bool {
			return slices.Contains([]int{api.DoCancel, api.DoOpen, api.DoShut, api.DoToken, api.DoForget}, do.Op)
		})
	}
	return s
}

// TestValuesWhateverTheSchedule: T7.
func TestValuesWhateverTheSchedule(t *testing.T) {
	differ := 0
	for seed := range int64(1500) {
		script := newLots(4000000 + seed).tame()
		var first [][]int64
		var events []api.Event
		for policy := range 5 {
			script.Policy, script.Seed = policy, uint64(seed)
			w := open(t, script)
			w.Go(1 << 40)
			var values [][]int64
			for n := range script.Clients {
				var l []int64
				for _, g := range w.Log(n) {
					l = append(l, g.Outcome.Value)
				}
				values = append(values, l)
			}
			if policy == 0 {
				first, events = values, w.Events()
			}
			if !slices.EqualFunc(values, first, slices.Equal[[]int64]) {
				t.Fatalf("%d: %+v: by the policy %d %v, not %v", seed, script, policy, values, first)
			}
			if !slices.Equal(events, w.Events()) {
				differ++
			}
		}
	}
	if differ < 1000 {
		t.Fatalf("only %d schedules were others", differ)
	}
}
