package group_test

import (
	"math/rand"
	"runtime"
	"slices"
	"testing"

	"convoy/api"
	"convoy/group"
)

// TestExamples: the chapter's.
func TestExamples(t *testing.T) {
	g := fresh(t, api.Config{TTL: 5, Stale: 5, Entries: 2, Flight: 2, Batch: 1})
	join(t, g, 0, a, 1, 0, led(1, 1))
	join(t, g, 0, a, 2, 0, joined(1))
	end(t, g, 1, 1, value(7), api.Done{Run: api.Run{Run: 1, Key: a}, Told: told(value(7), 1, 2), Current: true, Kept: true})
	join(t, g, 5, a, 3, 0, hit(value(7)))
	join(t, g, 6, a, 3, 0, staleLed(2, value(7), 2))
	join(t, g, 12, a, 3, 0, joined(2))

	g = fresh(t, api.Config{TTL: 5, Stale: 5, Entries: 2, Flight: 2, Batch: 1})
	join(t, g, 0, a, 1, 9, led(1, 1))
	join(t, g, 0, a, 2, 9, joined(1))
	cancel(t, g, 1, 9, leftStill(1, 1), leftBoth(2, 1))
	if got := g.Generation(a); got != 1 {
		t.Errorf("Generation(a): %d", got)
	}
	join(t, g, 1, a, 3, 0, led(2, 2))
	noJoin(t, g, api.ErrGone, 1, b, 4, 9)
}

// TestExamplesOfTheWhole: those of the document that a group plays.
func TestExamplesOfTheWhole(t *testing.T) {
	c := api.Config{TTL: 5, Stale: 2, Entries: 1, Flight: 1, Batch: 1}
	g := fresh(t, c)
	join(t, g, 0, a, 1, 1, led(1, 1))
	join(t, g, 0, a, 2, 2, joined(1))
	alone, none := g.Clone(), g.Clone()
	end(t, g, 3, 1, value(7), api.Done{Run: api.Run{Run: 1, Key: a}, Told: told(value(7), 1, 2), Current: true, Kept: true})
	meets(t, g, 7, a, hit(value(7)))
	meets(t, g, 8, a, staleLed(2, value(7), 2))
	cancel(t, alone, 1, 1, leftStill(1, 1))
	end(t, alone, 3, 1, value(7), api.Done{Run: api.Run{Run: 1, Key: a}, Told: told(value(7), 2), Current: true, Kept: true})
	cancel(t, none, 1, 1, leftStill(1, 1))
	cancel(t, none, 1, 2, leftBoth(2, 1))
	join(t, none, 2, b, 3, 0, busy())

	c.Batch, c.Window, c.Flight = 3, 5, 2
	g = fresh(t, c)
	join(t, g, 0, a, 1, 0, led(1))
	join(t, g, 2, b, 2, 0, led(2))
	send(t, g, 4)
	send(t, g, 5, 1, 2)
}

// lots is what comes by lot, and how often each thing came.
type lots struct {
	*rand.Rand
	met map[string]int
}

func newLots(seed int64) *lots { return &lots{rand.New(rand.NewSource(seed)), map[string]int{}} }

// saw counts a thing that came, if it did.
func (l *lots) saw(name string, did bool) {
	if did {
		l.met[name]++
	}
}

// someConfig is a configuration by lot, in which little is enough to meet every bound.
func (l *lots) someConfig() api.Config {
	return api.Config{
		TTL: l.Int63n(6), Negative: l.Int63n(5), Stale: l.Int63n(5),
		Entries: l.Intn(4), Flight: l.Intn(5) + 1, Batch: l.Intn(3) + 1, Window: l.Int63n(5),
	}
}

// someTick is a number by lot that is a tick behind the time mostly.
func (l *lots) someTick(time int64) int64 {
	switch l.Intn(40) {
	case 0:
		return noTicks[l.Intn(len(noTicks))]
	case 1:
		return time - 1 - l.Int63n(3)
	case 2:
		return min(time+l.Int63n(12), last)
	}
	return min(time+l.Int63n(4)/2, last)
}

// someKey is a key by lot, of few, seldom one that may not be.
func (l *lots) someKey() api.Key {
	if l.Intn(40) == 0 {
		return noKeys[l.Intn(len(noKeys))]
	}
	return keys[l.Intn(len(keys))]
}

// someOutcome is an outcome by lot, a value mostly, seldom one that may not be.
func (l *lots) someOutcome() api.Outcome {
	switch l.Intn(12) {
	case 0:
		return noOutcomes[l.Intn(len(noOutcomes))]
	case 1, 2, 3, 4:
		return outcomes[l.Intn(len(outcomes))]
	}
	return value(l.Int63n(100))
}

// someRun is a run by lot, one that is in progress mostly.
func (l *lots) someRun(g *group.Group) int {
	if runs := g.Progress(); len(runs) > 0 && l.Intn(8) > 0 {
		return runs[l.Intn(len(runs))]
	}
	return l.Intn(30) - 2
}

// someToken is a token by lot, of those that were not used as yet mostly, and seldom none that may be.
func (l *lots) someToken(step int) int {
	switch l.Intn(12) {
	case 0:
		return -1 - l.Intn(2)
	case 1, 2, 3:
		return 0
	}
	return max(step/20+l.Intn(4)-1, 0)
}

// stepJoin lets a caller ask by lot.
func (l *lots) stepJoin(t *testing.T, g *group.Group, p *plain, now int64, step int) {
	t.Helper()
	k, caller, token := l.someKey(), l.Intn(9), l.someToken(step)
	want, wrong := p.join(now, k, caller, token)
	got, err := g.Join(now, k, caller, token)
	if !equal(got, want) || err != wrong {
		t.Fatalf("Join(%d, %v, %d, %d): %+v, %d, not %+v, %d", now, k, caller, token, got, err, want, wrong)
	}
	how := []string{"refused", "hit", "stale", "joined", "busy", "led"}[got.How]
	l.met[how]++
	l.saw("stale with a run", got.How == api.HowStale && !got.Begun)
	l.saw("several sent", len(got.Sent) > 1)
	l.saw("gathers", got.Begun && len(got.Sent) == 0)
	l.saw("waits already", err == api.ErrWaits)
	l.saw("token gone", err == api.ErrGone)
}

// stepLeave lets a caller leave, or all by a token, by lot.
func (l *lots) stepLeave(t *testing.T, g *group.Group, p *plain, now int64, step int) {
	t.Helper()
	if l.Intn(3) > 0 {
		caller := l.Intn(10) - 1
		want, wrong := p.leave(now, caller)
		got, err := g.Leave(now, caller)
		if got != want || err != wrong {
			t.Fatalf("Leave(%d, %d): %+v, %d, not %+v, %d", now, caller, got, err, want, wrong)
		}
		l.saw("left", err == api.OK)
		l.saw("abandoned", got.Abandoned)
		l.saw("cancelled, not abandoned", got.Cancelled && !got.Abandoned)
		return
	}
	token := l.someToken(step)
	want, wrong := p.cancel(now, token)
	got, err := g.Cancel(now, token)
	if !slices.Equal(got, want) || err != wrong {
		t.Fatalf("Cancel(%d, %d): %+v, %d, not %+v, %d", now, token, got, err, want, wrong)
	}
	l.saw("several left", len(got) > 1)
}

// stepForget forgets a key by lot.
func (l *lots) stepForget(t *testing.T, g *group.Group, p *plain, now int64) {
	t.Helper()
	k := l.someKey()
	want, wrong := p.forget(now, k)
	got, err := g.Forget(now, k)
	if got != want || err != wrong {
		t.Fatalf("Forget(%d, %v): %+v, %d, not %+v, %d", now, k, got, err, want, wrong)
	}
	l.saw("forgotten, cancelled", got.Cancelled)
	l.saw("forgotten, a refresh goes on", got.Kept && got.Run > 0 && !got.Cancelled)
}

// stepEnd ends a run by lot.
func (l *lots) stepEnd(t *testing.T, g *group.Group, p *plain, now int64) {
	t.Helper()
	run, o := l.someRun(g), l.someOutcome()
	want, wrong := p.end(now, run, o)
	got, err := g.End(now, run, o)
	if !equalDone(got, want) || err != wrong {
		t.Fatalf("End(%d, %d, %v): %+v, %d, not %+v, %d", now, run, o, got, err, want, wrong)
	}
	l.saw("kept", got.Kept)
	l.saw("gone", len(got.Gone) > 0)
	l.saw("gone and left", len(got.Left) > 0)
	l.saw("a refresh failed", got.Current && got.Run.Refresh && o.Fail.Kind == api.FailLoad)
	l.saw("several told", len(got.Told) > 1)
	l.saw("not current", err == api.OK && !got.Current)
}

// step plays one step by lot on a group and on a plain one.
func (l *lots) step(t *testing.T, g *group.Group, p *plain, step int) {
	t.Helper()
	now := l.someTick(p.now)
	switch what := l.Intn(100); {
	case what < 55:
		l.stepJoin(t, g, p, now, step)
	case what < 70:
		l.stepLeave(t, g, p, now, step)
	case what < 74:
		l.stepForget(t, g, p, now)
	case what < 92:
		l.stepEnd(t, g, p, now)
	default:
		want, wrong := p.send(now)
		got, err := g.Send(now)
		if !slices.Equal(got, want) || err != wrong {
			t.Fatalf("Send(%d): %v, %d, not %v, %d", now, got, err, want, wrong)
		}
		l.saw("sent when due", len(got) > 0)
	}
}

// TestLikePlain plays steps by lot on groups, their clones and plain ones (16.1 to 16.6).
func TestLikePlain(t *testing.T) {
	l := newLots(16)
	for range 600 {
		c := l.someConfig()
		groups, plains := []*group.Group{fresh(t, c)}, []*plain{newPlain(c)}
		for step := range 250 {
			i := l.Intn(len(groups))
			l.step(t, groups[i], plains[i], step)
			same(t, groups[i], plains[i].state())
			if len(groups) < 4 && l.Intn(60) == 0 {
				groups, plains = append(groups, groups[i].Clone()), append(plains, plains[i].clone())
			}
		}
		for i, g := range groups {
			same(t, g, plains[i].state())
		}
	}
	for _, name := range []string{
		"refused", "hit", "stale", "joined", "busy", "led", "stale with a run", "several sent", "gathers", "sent when due", "waits already", "token gone",
		"left", "several left", "abandoned", "cancelled, not abandoned", "forgotten, cancelled", "forgotten, a refresh goes on",
		"kept", "gone", "gone and left", "a refresh failed", "several told", "not current",
	} {
		if l.met[name] < 40 {
			t.Errorf("%s came %d times alone", name, l.met[name])
		}
	}
}

// bounds looks that no two runs in progress have one key and generation, that no more than Flight are in progress and no more than Entries kept, and that just those tokens are cancelled of whose run's interest is 0 (16.8).
func bounds(t *testing.T, g *group.Group) {
	t.Helper()
	type place struct {
		key        api.Key
		generation int
	}
	taken := map[place]int{}
	for _, run := range g.Progress() {
		r, _ := g.Run(run)
		at := place{r.Key, r.Generation}
		if other, is := taken[at]; is {
			t.Fatalf("%d and %d are in progress, both of %+v", other, run, at)
		}
		taken[at] = run
		if g.Cancelled(run) != (g.Interest(run) == 0) {
			t.Fatalf("Cancelled, Interest(%d): %t, %d", run, g.Cancelled(run), g.Interest(run))
		}
	}
	if len(taken) > g.Config().Flight || len(g.Entries()) > g.Config().Entries {
		t.Fatalf("%d are in progress, %d are kept, of %+v", len(taken), len(g.Entries()), g.Config())
	}
}

// TestBounds: at every point the bounds hold, a cancelled token stays so, and all who wait until the end, and nobody else, are told its one outcome (16.8; T1, T3, T4, T5).
func TestBounds(t *testing.T) {
	l := newLots(168)
	ends := 0
	for range 150 {
		g := fresh(t, l.someConfig())
		var cancelled []int
		for step := range 200 {
			now := g.Now() + l.Int63n(3)/2
			switch l.Intn(8) {
			case 0, 1, 2, 3:
				g.Join(now, l.someKey(), l.Intn(9), l.someToken(step))
			case 4:
				g.Leave(now, l.Intn(9))
			case 5:
				g.Cancel(now, l.someToken(step))
			case 6:
				g.Forget(now, l.someKey())
			case 7:
				run, o := l.someRun(g), l.someOutcome()
				waiters := g.Waiters(run)
				if d, err := g.End(now, run, o); err == api.OK {
					ends++
					if !slices.Equal(d.Told, told(o, waiters...)) {
						t.Fatalf("%v wait, and are told: %v", waiters, d.Told)
					}
				}
			}
			bounds(t, g)
			for _, run := range cancelled {
				if _, is := g.Run(run); is && !g.Cancelled(run) {
					t.Fatalf("%d is cancelled no more", run)
				}
			}
			cancelled = slices.DeleteFunc(g.Progress(), func(run int) bool { return !g.Cancelled(run) })
		}
	}
	if ends < 1000 {
		t.Errorf("only %d runs ended", ends)
	}
}

// TestKeptUntilItsTime: while at most Entries keys were used, a value that was kept at b, and not forgotten, is a hit at each tick below b and TTL (16.8; T6).
func TestKeptUntilItsTime(t *testing.T) {
	l := newLots(1686)
	hits := 0
	for range 150 {
		c := l.someConfig()
		c.TTL, c.Entries = l.Int63n(9)+1, len(keys)+l.Intn(2)
		g := fresh(t, c)
		values := map[api.Key]api.Kept{} // what was kept last as a value, and not forgotten
		for step := range 150 {
			now := g.Now() + l.Int63n(3)/2
			switch l.Intn(8) {
			case 0, 1, 2, 3:
				g.Join(now, l.someKey(), l.Intn(9), l.someToken(step))
			case 4:
				g.Leave(now, l.Intn(9))
			case 5:
				if k := l.someKey(); l.Intn(3) == 0 {
					g.Forget(now, k)
					delete(values, k)
				}
			case 6, 7:
				o := l.someOutcome()
				d, err := g.End(now, l.someRun(g), o)
				if isValue := o.Fail == (api.Fail{}); err == api.OK && isValue && d.Current {
					values[d.Run.Key] = kept(d.Run.Key, o, now)
				}
			}
			for k, e := range values {
				for _, now := range []int64{g.Now(), e.At + c.TTL - 1} {
					if now >= g.Now() && now < e.At+c.TTL {
						meets(t, g, now, k, hit(e.Outcome))
						hits++
					}
				}
			}
		}
	}
	if hits < 1000 {
		t.Errorf("only %d were hits", hits)
	}
}

// many is so many that a search through what has been would not end in time.
const many = 1 << 17

// TestManyCallers: as many as there are wait for one run, leave it out of turn, or by their tokens, and are told its end (16.2 to 16.5).
func TestManyCallers(t *testing.T) {
	g := fresh(t, usual)
	join(t, g, 0, a, many, 1, led(1, 1))
	for caller := 1; caller < many; caller++ {
		join(t, g, 0, a, caller, caller%4, joined(1))
	}
	for caller := many - 1; caller > 0; caller-- {
		if caller%4 == 2 {
			leave(t, g, 0, caller, leftStill(caller, 1))
		}
	}
	lefts, err := g.Cancel(0, 3)
	if len(lefts) != many/4 || err != api.OK || lefts[0] != leftStill(3, 1) || lefts[many/4-1] != leftStill(many-1, 1) {
		t.Fatalf("%d left, %d", len(lefts), err)
	}
	if got := g.Interest(1); got != many/2 {
		t.Fatalf("Interest(1): %d", got)
	}
	d, err := g.End(0, 1, value(7))
	if len(d.Told) != many/2 || err != api.OK || d.Told[0].Caller != many || d.Told[1].Caller != 1 || d.Told[2].Caller != 4 {
		t.Fatalf("%d were told, %d", len(d.Told), err)
	}
	for caller := 1; caller <= many; caller++ {
		join(t, g, 0, a, caller, 0, hit(value(7)))
	}
}

// spread is a key for a number, unlike those of most others.
func spread(n int) api.Key { return api.Key{Space: uint16(n % 50000), Name: "m"} }

// TestManyRuns: as many as there are begin, gather and end, within the greatest bounds (16.2, 16.5).
func TestManyRuns(t *testing.T) {
	g := fresh(t, api.Config{TTL: 5, Stale: 5, Entries: 40000, Flight: 4096, Batch: 1024, Window: 9})
	sent := 0
	for run := 1; run <= many; run++ {
		j, err := g.Join(int64(run), spread(run), run, run)
		if j.How != api.HowLed || j.Run != run || err != api.OK {
			t.Fatalf("Join(%d): %+v, %d", run, j, err)
		}
		l, _ := g.Send(int64(run))
		sent += len(j.Sent) + len(l)
		if run > 4000 {
			if d, err := g.End(int64(run), run-4000, value(1)); !d.Kept || err != api.OK {
				t.Fatalf("End(%d): %+v, %d", run-4000, d, err)
			}
		}
	}
	if len(g.Progress()) != 4000 || len(g.Entries()) != 40000 || sent+len(g.Gathers()) != many {
		t.Errorf("in progress %d, kept %d, sent %d", len(g.Progress()), len(g.Entries()), sent)
	}
}

// weight is how many bytes a clone of a group takes.
func weight(g *group.Group) uint64 {
	var before, after runtime.MemStats
	runtime.ReadMemStats(&before)
	twin := g.Clone()
	runtime.ReadMemStats(&after)
	runtime.KeepAlive(twin)
	return after.TotalAlloc - before.TotalAlloc
}

// TestNothingIsKeptOfWhatEnded: of runs that ended, and of who waited for them, left, or was refused, nothing is kept but what the configuration says.
func TestNothingIsKeptOfWhatEnded(t *testing.T) {
	g := fresh(t, api.Config{TTL: 5, Negative: 5, Stale: 5, Entries: 3, Flight: 2, Batch: 2, Window: 3})
	for i := range 40000 {
		now := int64(i)
		j, err := g.Join(now, spread(i), 3*i+1, 3*i+1)
		if j.How != api.HowLed || err != api.OK {
			t.Fatalf("Join(%d): %+v, %d", i, j, err)
		}
		join(t, g, now, spread(i), 3*i+2, 3*i+2, joined(j.Run))
		leave(t, g, now, 3*i+2, leftStill(3*i+2, j.Run))
		if d, err := g.End(now, j.Run, value(7)); !d.Kept || err != api.OK {
			t.Fatalf("End(%d): %+v, %d", i, d, err)
		}
		join(t, g, now, spread(i), 3*i+3, 3*i+3, hit(value(7)))
		g.Send(now)
	}
	if bytes := weight(g); bytes > 60000 {
		t.Errorf("nothing is in progress, and the group takes %d bytes", bytes)
	}
}
