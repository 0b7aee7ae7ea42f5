package world_test

import (
	"fmt"
	"math/rand"
	"slices"
	"testing"

	"convoy/api"
	"convoy/world"
)

// saw counts what was met by lot.
type saw map[string]int

// enough looks that each of some things was met often.
func (s saw) enough(t *testing.T, times int, what ...string) {
	t.Helper()
	for _, one := range what {
		if s[one] < times {
			t.Errorf("%s: met %d times", one, s[one])
		}
	}
}

// lots is a script by lot.
type lots struct {
	*rand.Rand
	keys []api.Key
}

func newLots(seed int64) *lots {
	l := &lots{Rand: rand.New(rand.NewSource(seed))}
	l.keys = []api.Key{a, b, c, {Space: 9, Name: "a"}}[:1+l.Intn(4)]
	return l
}

func (l *lots) key() api.Key { return l.keys[l.Intn(len(l.keys))] }

func (l *lots) config() api.Config {
	return api.Config{
		TTL: l.Int63n(7), Negative: l.Int63n(5), Stale: l.Int63n(7),
		Entries: l.Intn(4), Flight: 1 + l.Intn(5), Batch: 1 + l.Intn(3), Window: l.Int63n(5),
	}
}

// step is a step of a recipe by lot, of few gates and short sleeps.
func (l *lots) step() api.Step {
	switch l.Intn(12) {
	case 0, 1:
		return api.Step{Op: api.StepGate, A: l.Int63n(3)}
	case 2, 3, 4:
		return api.Step{Op: api.StepSleep, A: l.Int63n(4)}
	case 5:
		return api.Step{Op: api.StepHeed}
	case 6:
		return api.Step{Op: api.StepSkip, A: l.Int63n(4), B: 1 + l.Int63n(2)}
	case 7:
		return api.Step{Op: api.StepRun}
	case 8:
		return api.Step{Op: api.StepKey}
	case 9:
		return []api.Step{{Op: api.StepFail, A: l.Int63n(3)}, {Op: api.StepPanic, A: l.Int63n(3)}, {Op: api.StepAnswer}}[l.Intn(3)]
	}
	return api.Step{Op: api.StepAdd, A: l.Int63n(9)}
}

// do is a thing to do by lot.
func (l *lots) do() api.Do {
	switch l.Intn(20) {
	case 0, 1, 2, 3, 4:
		return api.Do{Op: api.DoStart, Key: l.key(), Slot: l.Intn(2) * 15}
	case 5, 6, 7:
		return api.Do{Op: api.DoAwait, Slot: l.Intn(2) * 15}
	case 8:
		return api.Do{Op: api.DoForget, Key: l.key()}
	case 9:
		return api.Do{Op: api.DoCancel, N: 1 + l.Int63n(3)}
	case 10, 11:
		return api.Do{Op: api.DoOpen, N: l.Int63n(3)}
	case 12:
		return api.Do{Op: api.DoShut, N: l.Int63n(3)}
	case 13, 14:
		return api.Do{Op: api.DoSleep, N: l.Int63n(6)}
	case 15:
		return api.Do{Op: api.DoToken, N: l.Int63n(4)}
	}
	return api.Do{Op: api.DoCall, Key: l.key()}
}

// program is a program by lot: often of one who has a token from the first on, or of one who cancels all.
func (l *lots) program() []api.Do {
	var all []api.Do
	switch l.Intn(6) {
	case 0, 1:
		all = append(all, api.Do{Op: api.DoToken, N: 1 + l.Int63n(3)})
	case 2:
		for token := range int64(3) {
			all = append(all, api.Do{Op: api.DoSleep, N: l.Int63n(3)}, api.Do{Op: api.DoCancel, N: 1 + token})
		}
	}
	for range l.Intn(14) {
		all = append(all, l.do())
	}
	return all
}

func (l *lots) script() api.Script {
	s := api.Script{Config: l.config(), Policy: l.Intn(5), Seed: l.Uint64()}
	if l.Intn(3) == 0 {
		// What is kept is stale soon, and for long.
		s.Config.TTL, s.Config.Stale, s.Config.Entries = 1+l.Int63n(2), 5+l.Int63n(5), 1+l.Intn(2)
	}
	for range l.Intn(7) {
		r := api.Recipe{Key: l.key()}
		for range l.Intn(6) {
			r.Steps = append(r.Steps, l.step())
		}
		s.Recipes = append(s.Recipes, r)
	}
	for range 1 + l.Intn(5) {
		s.Clients = append(s.Clients, l.program())
	}
	for range l.Intn(2) * l.Intn(20) {
		s.Picks = append(s.Picks, l.Intn(9)-4)
	}
	return s
}

// equal holds all that a world tells against a plain one, but the events ahead of so many.
func equal(w *world.World, p *plain, from int) error {
	if !slices.Equal(w.Events()[from:], p.events[from:]) {
		return fmt.Errorf("events behind %d:\n%v\nnot\n%v", from, lines(w.Events()[from:]), lines(p.events[from:]))
	}
	if !slices.Equal(w.Ready(), p.ready) || !slices.Equal(w.Told(), p.told) {
		return fmt.Errorf("Ready, Told: %v, %v, not %v, %v", w.Ready(), w.Told(), p.ready, p.told)
	}
	quiet := len(p.ready)+len(p.timers) == 0
	if w.Now() != p.now || w.Turns() != p.turns || w.Quiet() != quiet {
		return fmt.Errorf("Now, Turns, Quiet: %d, %d, %t, not %d, %d, %t", w.Now(), w.Turns(), w.Quiet(), p.now, p.turns, quiet)
	}
	var rings []api.Ring
	for _, x := range p.sorted() {
		rings = append(rings, x.Ring)
	}
	if !slices.Equal(w.Armed(), rings) {
		return fmt.Errorf("Armed: %v, not %v", w.Armed(), rings)
	}
	for n := range p.clients {
		if err := equalClient(w, p, n); err != nil {
			return err
		}
	}
	if err := equalLoads(w, p); err != nil {
		return err
	}
	return equalGroup(w, p)
}

// equalClient holds a client against a plain one.
func equalClient(w *world.World, p *plain, n int) error {
	m := p.clients[n]
	if !slices.Equal(w.Log(n), m.log) {
		return fmt.Errorf("Log(%d): %v, not %v", n, w.Log(n), m.log)
	}
	if caller, ok := w.Waits(n); caller != m.waits || ok != (m.waits != 0) {
		return fmt.Errorf("Waits(%d): %d, %t, not %d", n, caller, ok, m.waits)
	}
	ended := m.at == len(m.program) && m.waits == 0 && !p.sleeps(n)
	if w.Ended(n) != ended {
		return fmt.Errorf("Ended(%d): %t", n, w.Ended(n))
	}
	return nil
}

// equalLoads holds the loads against plain ones.
func equalLoads(w *world.World, p *plain) error {
	all := w.Loads()
	if len(all) != len(p.loads) {
		return fmt.Errorf("Loads: %d, not %d", len(all), len(p.loads))
	}
	for i, l := range p.loads {
		want := api.Standing{Task: l.task, Wait: l.wait, Ended: l.ended}
		for _, r := range l.runs {
			want.Runs = append(want.Runs, r.Run.Run)
		}
		if standing(all[i]) != standing(want) {
			return fmt.Errorf("Loads, at %d: %s, not %s", i, standing(all[i]), standing(want))
		}
	}
	return nil
}

// equalGroup holds the group against what a plain world has.
func equalGroup(w *world.World, p *plain) error {
	g := w.Group()
	if g.Now() != p.now || g.Config() != p.script.Config || !slices.Equal(g.Entries(), p.entries) {
		return fmt.Errorf("of the group: %d, %v, %v, not %d, %v", g.Now(), g.Config(), g.Entries(), p.now, p.entries)
	}
	var progress, gathers []int
	for _, r := range p.progress() {
		run := r.Run.Run
		progress = append(progress, run)
		if is, _ := g.Run(run); is != r.Run || g.Cancelled(run) != r.cancelled || !slices.Equal(g.Waiters(run), p.waiters(run)) {
			return fmt.Errorf("the run %d: %v, %t, %v, not %v, %t, %v", run, is, g.Cancelled(run), g.Waiters(run), r.Run, r.cancelled, p.waiters(run))
		}
	}
	for _, r := range p.gathers {
		gathers = append(gathers, r.Run.Run)
	}
	if !slices.Equal(g.Progress(), progress) || !slices.Equal(g.Gathers(), gathers) {
		return fmt.Errorf("Progress, Gathers: %v, %v, not %v, %v", g.Progress(), g.Gathers(), progress, gathers)
	}
	for _, k := range []api.Key{a, b, c, {Space: 9, Name: "a"}} {
		if g.Generation(k) != p.generations[k] {
			return fmt.Errorf("Generation(%v): %d, not %d", k, g.Generation(k), p.generations[k])
		}
	}
	return nil
}

// meet counts what happened in a world.
func (s saw) meet(w *world.World) {
	all := w.Events()
	for i, e := range all {
		s[kinds[e.Kind]]++
		switch e.Kind {
		case api.EventJoin:
			s["join by "+hows[e.How]]++
		case api.EventBegin:
			s[fmt.Sprintf("begin by %d", e.How)]++
		case api.EventEnd:
			s[fmt.Sprintf("end with %d", e.Outcome.Fail.Kind)]++
		}
		for ahead := 1; ahead <= min(i, 2); ahead++ {
			s[kinds[all[i-ahead].Kind]+" ahead of "+kinds[e.Kind]]++
		}
	}
	for _, l := range w.Loads() {
		s[fmt.Sprintf("load of %d", len(l.Runs))]++
		s["load that "+waits[l.Wait]]++
	}
}

// TestLikePlain holds worlds against plain ones turn by turn, by lot (23.2, 23.3).
func TestLikePlain(t *testing.T) {
	s := saw{}
	for seed := range int64(12000) {
		script := newLots(seed).script()
		w, p := open(t, script), newPlain(script)
		from := 0
		for more := true; more; {
			if err := equal(w, p, from); err != nil {
				t.Fatalf("%d, behind %d turns, of %+v: %v", seed, p.turns, script, err)
			}
			from = len(p.events)
			more = p.turn()
			if w.Turn() != more {
				t.Fatalf("%d, behind %d turns, of %+v: Turn is not %t", seed, p.turns, script, more)
			}
		}
		s.meet(w)
	}
	s.enough(t, 400, "join", "begin", "send", "tell", "end", "cancel", "abandon", "forget", "keep", "drop", "leave",
		"join by hit", "join by stale", "join by joined", "join by busy", "join by led", "join by cancel", "begin by 0", "begin by 1",
		"end with 0", "end with 1", "end with 2", "end with 5", "load of 1", "load of 2", "load of 3", "load that gate",
		"leave ahead of leave", "leave ahead of cancel", "cancel ahead of abandon", "forget ahead of drop", "keep ahead of drop")
	s.enough(t, 50, "drop ahead of abandon", "forget ahead of cancel")
}
