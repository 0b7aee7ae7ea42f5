package audit_test

import (
	"fmt"
	"slices"
	"testing"

	"convoy/api"
	"convoy/audit"
	"convoy/world"
)

// step is a step of a recipe by lot, of few gates and short sleeps.
func (l lots) step() api.Step {
	switch l.Intn(12) {
	case 0:
		return api.Step{Op: api.StepGate, A: l.Int63n(3)}
	case 1, 2, 3, 4:
		return api.Step{Op: api.StepSleep, A: l.Int63n(4)}
	case 5:
		return api.Step{Op: api.StepHeed}
	case 6:
		return api.Step{Op: api.StepSkip, A: l.Int63n(4), B: 1 + l.Int63n(2)}
	case 7:
		return api.Step{Op: api.StepRun}
	case 8:
		return []api.Step{{Op: api.StepFail, A: l.Int63n(3)}, {Op: api.StepPanic, A: l.Int63n(3)}, {Op: api.StepAnswer}}[l.Intn(3)]
	}
	return api.Step{Op: api.StepAdd, A: l.Int63n(9)}
}

// do is a thing to do by lot.
func (l lots) do(k func() api.Key) api.Do {
	switch l.Intn(18) {
	case 0, 1, 2, 3:
		return api.Do{Op: api.DoStart, Key: k(), Slot: l.Intn(3)}
	case 4, 5:
		return api.Do{Op: api.DoAwait, Slot: l.Intn(3)}
	case 6:
		return api.Do{Op: api.DoForget, Key: k()}
	case 7:
		return api.Do{Op: api.DoCancel, N: 1 + l.Int63n(3)}
	case 8, 9:
		return api.Do{Op: api.DoOpen, N: l.Int63n(3)}
	case 10:
		return api.Do{Op: api.DoShut, N: l.Int63n(3)}
	case 11, 12:
		return api.Do{Op: api.DoSleep, N: l.Int63n(6)}
	case 13:
		return api.Do{Op: api.DoToken, N: l.Int63n(4)}
	}
	return api.Do{Op: api.DoCall, Key: k()}
}

// script is a script by lot in which all that can happen happens now and then.
func (l lots) script() api.Script {
	keys := []api.Key{{}, {Name: "a"}, {Space: 7, Name: "a"}}[:1+l.Intn(3)]
	one := func() api.Key { return keys[l.Intn(len(keys))] }
	c := l.config()
	c.Batch, c.Window = 1+l.Intn(3), l.Int63n(4)
	if l.Intn(3) == 0 {
		// What is kept is stale soon, and for long.
		c.TTL, c.Stale, c.Entries = 1+l.Int63n(2), 5+l.Int63n(5), 1+l.Intn(2)
	}
	s := api.Script{Config: c, Policy: l.Intn(5), Seed: l.Uint64()}
	for range l.Intn(7) {
		r := api.Recipe{Key: one()}
		for range l.Intn(6) {
			r.Steps = append(r.Steps, l.step())
		}
		s.Recipes = append(s.Recipes, r)
	}
	for range 1 + l.Intn(5) {
		program := []api.Do{{Op: api.DoToken, N: l.Int63n(4)}}
		for range l.Intn(14) {
			program = append(program, l.do(one))
		}
		s.Clients = append(s.Clients, program)
	}
	for range l.Intn(2) * l.Intn(20) {
		s.Picks = append(s.Picks, l.Intn(9)-4)
	}
	return s
}

func open(t testing.TB, s api.Script) *world.World {
	t.Helper()
	w, _, err := world.New(s)
	if err != api.OK {
		t.Fatalf("%+v: %d", s, err)
	}
	return w
}

// happened is all events of a world of a script.
func happened(t testing.TB, s api.Script) []api.Event {
	t.Helper()
	w := open(t, s)
	w.Go(1 << 40)
	return w.Events()
}

// whole looks that events break no call.
func whole(t testing.TB, what string, l []api.Event, c api.Config) {
	t.Helper()
	if which, at, is := audit.All(l, c); which != -1 || at != -1 || is {
		t.Fatalf("%s by %+v: %d, %d, %t\n%s", what, c, which, at, is, told(l))
	}
	for n, x := range calls(c) {
		if at, is := x(l); at != -1 || is {
			t.Fatalf("%s by %+v: %s: %d, %t\n%s", what, c, callNames[n], at, is, told(l))
		}
	}
}

// meet counts what happened.
func (s saw) meet(l []api.Event) {
	for _, e := range l {
		s[fmt.Sprint("kind ", e.Kind)]++
		if e.Kind == api.EventJoin {
			s[fmt.Sprint("how ", e.How)]++
		}
		if e.Kind == api.EventBegin && e.How == 1 {
			s["refresh"]++
		}
	}
}

// TestWorlds: of the events of a world none is broken, by many scripts, and all policies of each, behind each turn (25.6).
func TestWorlds(t *testing.T) {
	s := saw{}
	for seed := range int64(2500) {
		script := newLots(3000000 + seed).script()
		s.meet(happened(t, script))
		for policy := range 5 {
			script.Policy, script.Seed = policy, uint64(seed)
			whole(t, "all", happened(t, script), script.Config)
		}
		w := open(t, script)
		for n := 0; w.Turn(); n++ {
			if seed%10 == 0 || n%16 == 0 {
				whole(t, "behind a turn", w.Events(), script.Config)
			}
		}
	}
	for kind := 1; kind <= 11; kind++ {
		s.enough(t, 150, fmt.Sprint("kind ", kind))
	}
	s.enough(t, 100, "how 1", "how 2", "how 3", "how 4", "how 5", "how 6", "refresh")
}

// TestWorldsAtTheEdges: of the greatest times and bounds, and of none (25.6).
func TestWorldsAtTheEdges(t *testing.T) {
	for seed := range int64(1500) {
		l := newLots(4000000 + seed)
		script := l.script()
		for _, d := range []*int64{&script.Config.TTL, &script.Config.Negative, &script.Config.Stale} {
			*d = []int64{0, 1, 5, last - 1, last, 1<<63 - 1}[l.Intn(6)]
		}
		script.Config.Entries, script.Config.Flight = []int{0, 1, 65536}[l.Intn(3)], []int{1, 2, 4096}[l.Intn(3)]
		for n, program := range script.Clients {
			for m, do := range program {
				if do.Op == api.DoSleep && l.Intn(3) == 0 {
					script.Clients[n][m].N = []int64{last, last - 1, last / 2}[l.Intn(3)]
				}
			}
		}
		whole(t, "at the edges", happened(t, script), script.Config)
	}
}

// turnedBy is a way to turn an event, and the call that is broken by that, at the place of the event and as many places behind it.
type turnedBy struct {
	what   string
	which  int
	behind int
	// turn tells the events with the one at a place turned, if that is one of those that it turns.
	turn func(l []api.Event, n int, c api.Config) ([]api.Event, bool)
}

// with is events with another one at a place.
func with(l []api.Event, n int, change func(e *api.Event)) []api.Event {
	turned := slices.Clone(l)
	change(&turned[n])
	return turned
}

// changed turns events of a kind, and of a How, if that is not below 0.
func changed(kind, how int, change func(e *api.Event)) func(l []api.Event, n int, c api.Config) ([]api.Event, bool) {
	return func(l []api.Event, n int, _ api.Config) ([]api.Event, bool) {
		if l[n].Kind != kind || how >= 0 && l[n].How != how {
			return nil, false
		}
		return with(l, n, change), true
	}
}

// doubled lets an event of a kind happen twice.
func doubled(kind int) func(l []api.Event, n int, c api.Config) ([]api.Event, bool) {
	return func(l []api.Event, n int, _ api.Config) ([]api.Event, bool) {
		return slices.Insert(slices.Clone(l), n, l[n]), l[n].Kind == kind
	}
}

// taken takes the event ahead of one of a kind out, if that is of another kind.
func taken(kind, ahead int) func(l []api.Event, n int, c api.Config) ([]api.Event, bool) {
	return func(l []api.Event, n int, _ api.Config) ([]api.Event, bool) {
		if n == 0 || l[n].Kind != kind || l[n-1].Kind != ahead {
			return nil, false
		}
		return slices.Delete(slices.Clone(l), n-1, n), true
	}
}

var turns = []turnedBy{
	{"a Begin twice", 0, 1, doubled(api.EventBegin)},
	{"a Begin whose number is that of the run ahead", 0, 0, func(l []api.Event, n int, _ api.Config) ([]api.Event, bool) {
		return with(l, n, func(e *api.Event) { e.Run-- }), l[n].Kind == api.EventBegin && l[n].Run > 1
	}},
	{"a Begin of another run behind a Begin", 0, 1, func(l []api.Event, n int, _ api.Config) ([]api.Event, bool) {
		e := l[n]
		e.Run += 1000
		return slices.Insert(slices.Clone(l), n+1, e), e.Kind == api.EventBegin
	}},
	{"a Begin of a generation more", 1, 0, changed(api.EventBegin, -1, func(e *api.Event) { e.Generation++ })},
	{"a Begin of a generation less", 1, 0, changed(api.EventBegin, -1, func(e *api.Event) { e.Generation-- })},
	{"an Abandon of a generation more", 1, 0, changed(api.EventAbandon, -1, func(e *api.Event) { e.Generation++ })},
	{"an Abandon of a generation less", 1, 0, changed(api.EventAbandon, -1, func(e *api.Event) { e.Generation-- })},
	{"a Forget of a generation more", 1, 0, changed(api.EventForget, -1, func(e *api.Event) { e.Generation++ })},
	{"a Forget of a generation less", 1, 0, changed(api.EventForget, -1, func(e *api.Event) { e.Generation-- })},
	{"a Forget twice", 1, 1, doubled(api.EventForget)},
	{"an Abandon twice", 1, 1, doubled(api.EventAbandon)},
	{"a Tell of another value", 2, 0, changed(api.EventTell, -1, func(e *api.Event) { e.Outcome.Value++ })},
	{"a Tell of another failure", 2, 0, changed(api.EventTell, -1, func(e *api.Event) { e.Outcome.Fail.Run++ })},
	{"a Tell of another run", 2, 0, changed(api.EventTell, -1, func(e *api.Event) { e.Run += 1000 })},
	{"a Tell twice", 2, 1, doubled(api.EventTell)},
	{"a Tell without its End", 2, -1, taken(api.EventTell, api.EventEnd)},
	{"a Leave of another caller", 2, 0, changed(api.EventLeave, -1, func(e *api.Event) { e.Caller += 1000 })},
	{"a Leave of another run", 2, 0, changed(api.EventLeave, -1, func(e *api.Event) { e.Run += 1000 })},
	{"a Leave twice", 2, 1, doubled(api.EventLeave)},
	{"a Cancel twice", 3, 1, doubled(api.EventCancel)},
	{"a Cancel of another run", 3, 0, changed(api.EventCancel, -1, func(e *api.Event) { e.Run += 1000 })},
	{"a Cancel without the Leave", 3, -1, taken(api.EventCancel, api.EventLeave)},
	{"a Cancel behind the End", 3, 1, func(l []api.Event, n int, _ api.Config) ([]api.Event, bool) {
		return slices.Insert(slices.Clone(l), n+1, api.Event{At: l[n].At, Kind: api.EventCancel, Run: l[n].Run}), l[n].Kind == api.EventEnd
	}},
	{"a Join of another run", 3, 0, changed(api.EventJoin, api.HowJoined, func(e *api.Event) { e.Run += 1000 })},
	{"a Join of a run that is cancelled", 3, 1, func(l []api.Event, n int, _ api.Config) ([]api.Event, bool) {
		return slices.Insert(slices.Clone(l), n+1, api.Event{At: l[n].At, Kind: api.EventJoin, How: api.HowJoined, Caller: 999, Run: l[n].Run}), l[n].Kind == api.EventCancel
	}},
	{"a Join of a run that ended", 3, 1, func(l []api.Event, n int, _ api.Config) ([]api.Event, bool) {
		return slices.Insert(slices.Clone(l), n+1, api.Event{At: l[n].At, Kind: api.EventJoin, How: api.HowJoined, Caller: 999, Run: l[n].Run}), l[n].Kind == api.EventEnd
	}},
	{"busy behind an End", 4, 1, func(l []api.Event, n int, c api.Config) ([]api.Event, bool) {
		return slices.Insert(slices.Clone(l), n+1, api.Event{At: l[n].At, Kind: api.EventJoin, How: api.HowBusy}), l[n].Kind == api.EventEnd
	}},
	{"one run more where somebody is busy", 4, 0, changed(api.EventJoin, api.HowBusy, func(e *api.Event) { e.Kind, e.Run = api.EventBegin, 1000 })},
	{"a Drop twice", 5, 1, doubled(api.EventDrop)},
	{"a Drop of another key", 5, 0, changed(api.EventDrop, -1, func(e *api.Event) { e.Key.Space = 999 })},
	{"a Keep over the bound without its Drop", 5, 0, func(l []api.Event, n int, _ api.Config) ([]api.Event, bool) {
		if l[n].Kind != api.EventKeep || !isDrop(l, n+1) || isDrop(l, n+2) {
			return nil, false
		}
		return slices.Delete(slices.Clone(l), n+1, n+2), true
	}},
	{"a Keep over the bound as the last event", 5, 0, func(l []api.Event, n int, _ api.Config) ([]api.Event, bool) {
		return slices.Clone(l[:n+1]), l[n].Kind == api.EventKeep && isDrop(l, n+1)
	}},
	{"a hit of another value", 6, 0, changed(api.EventJoin, api.HowHit, func(e *api.Event) { e.Outcome.Value++ })},
	{"a hit of another failure", 6, 0, changed(api.EventJoin, api.HowHit, func(e *api.Event) { e.Outcome.Fail.Code++ })},
	{"a hit of another key", 6, 0, changed(api.EventJoin, api.HowHit, func(e *api.Event) { e.Key.Space = 999 })},
	{"a hit as a stale one", 6, 0, changed(api.EventJoin, api.HowHit, func(e *api.Event) { e.How = api.HowStale })},
	{"a stale one as a hit", 6, 0, changed(api.EventJoin, api.HowStale, func(e *api.Event) { e.How = api.HowHit })},
	{"a stale one of another value", 6, 0, changed(api.EventJoin, api.HowStale, func(e *api.Event) { e.Outcome.Value-- })},
	{"a stale one of another key", 6, 0, changed(api.EventJoin, api.HowStale, func(e *api.Event) { e.Key.Space = 999 })},
	{"a hit at no tick", 6, 0, changed(api.EventJoin, api.HowHit, func(e *api.Event) { e.At = last + 1 })},
	{"a Begin behind a value's Keep", 7, 1, func(l []api.Event, n int, _ api.Config) ([]api.Event, bool) {
		e := l[n]
		return slices.Insert(slices.Clone(l), n+1, api.Event{At: e.At, Kind: api.EventBegin, Run: 1000, Key: e.Key}), e.Kind == api.EventKeep && e.Outcome.Fail == api.Fail{}
	}},
	{"a Begin where there is a hit", 7, 0, func(l []api.Event, n int, _ api.Config) ([]api.Event, bool) {
		return with(l, n, func(e *api.Event) { e.Kind = api.EventBegin }), l[n].Kind == api.EventJoin && l[n].How == api.HowHit && l[n].Outcome.Fail == api.Fail{}
	}},
	{"a tick that goes back", 8, 0, func(l []api.Event, n int, _ api.Config) ([]api.Event, bool) {
		if n == 0 || l[n-1].At == 0 {
			return nil, false
		}
		return with(l, n, func(e *api.Event) { e.At = l[n-1].At - 1 }), true
	}},
	{"a tick below 0", 8, 0, func(l []api.Event, n int, _ api.Config) ([]api.Event, bool) {
		return with(l, n, func(e *api.Event) { e.At = -1 }), true
	}},
	{"a tick beyond the greatest", 8, 0, func(l []api.Event, n int, _ api.Config) ([]api.Event, bool) {
		return with(l, n, func(e *api.Event) { e.At = last + 1 }), true
	}},
	{"a tick that goes on too far", 8, 1, func(l []api.Event, n int, _ api.Config) ([]api.Event, bool) {
		return with(l, n, func(e *api.Event) { e.At = last }), n+1 < len(l) && l[n+1].At < last
	}},
}

func isDrop(l []api.Event, n int) bool { return n < len(l) && l[n].Kind == api.EventDrop }

// TestTurned: one event of a world is turned, so that just that call is broken there (25.1 to 25.5).
func TestTurned(t *testing.T) {
	s := saw{}
	for seed := range int64(1500) {
		script := newLots(5000000 + seed).script()
		c := script.Config
		l := happened(t, script)
		for n := range l {
			for _, by := range turns {
				turned, is := by.turn(l, n, c)
				if !is {
					continue
				}
				s[by.what]++
				if at, broken := calls(c)[by.which](turned); at != n+by.behind || !broken {
					t.Fatalf("seed %d, %s at %d by %+v: %s: %d, %t\n%s", seed, by.what, n, c, callNames[by.which], at, broken, told(turned))
				}
				which, at, broken := audit.All(turned, c)
				if !broken || which > by.which || which == by.which && at != n+by.behind {
					t.Fatalf("seed %d, %s at %d by %+v: All: %d, %d, %t\n%s", seed, by.what, n, c, which, at, broken, told(turned))
				}
			}
		}
	}
	for _, by := range turns {
		s.enough(t, 50, by.what)
	}
}

// turnByLot turns one event of some by lot, or takes it out, doubles it, or lets it happen elsewhere.
func (l lots) turnByLot(all []api.Event) []api.Event {
	n, m := l.Intn(len(all)), l.Intn(len(all))
	turned := slices.Clone(all)
	e := &turned[n]
	switch l.Intn(12) {
	case 0:
		return slices.Delete(turned, n, n+1)
	case 1:
		return slices.Insert(turned, m, all[n])
	case 2:
		turned[n], turned[m] = all[m], all[n]
	case 3:
		e.At += l.Int63n(7) - 3
	case 4:
		e.Kind = l.Intn(13)
	case 5:
		e.Caller = all[m].Caller
	case 6:
		e.Run = all[m].Run
	case 7:
		e.Generation += l.Intn(3) - 1
	case 8:
		e.How = l.Intn(8)
	case 9:
		e.Key = all[m].Key
	case 10:
		e.Outcome = all[m].Outcome
	case 11:
		e.Outcome.Value++
	}
	return turned
}

// TestTurnedByLot holds what all calls answer of the events of a world, some of them turned, against those by hand (25.1 to 25.5).
func TestTurnedByLot(t *testing.T) {
	s := saw{}
	for seed := range int64(3000) {
		l := newLots(6000000 + seed)
		script := l.script()
		all := happened(t, script)
		if len(all) == 0 {
			continue
		}
		all = all[:min(len(all), 60)]
		for range 1 + l.Intn(2) {
			if len(all) > 0 {
				all = l.turnByLot(all)
			}
		}
		for which, at := range alike(t, all, script.Config) {
			if at >= 0 {
				s[callNames[which]]++
			}
		}
	}
	s.enough(t, 20, callNames...)
}
