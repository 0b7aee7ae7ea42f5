package group_test

import (
	"slices"
	"testing"

	"convoy/api"
	"convoy/group"
)

// spoil overwrites a list, and what lies in the room behind its end.
func spoil[T any](l []T, with T) {
	l = l[:cap(l)]
	for i := range l {
		l[i] = with
	}
}

// What lists are spoilt with.
var (
	badKey  = api.Key{Space: 99, Name: "spoilt"}
	badRun  = api.Run{Run: 99, Key: badKey, Generation: 99, Refresh: true}
	badTold = api.Told{Caller: 99, Outcome: failure(api.FailLoad, 99, 99)}
	badKept = kept(badKey, failure(api.FailLoad, 99, 99), 99)
	badLeft = api.Left{Caller: 99, Run: 99, Cancelled: true, Abandoned: true, Outcome: value(99)}
)

// busyConfig is the configuration of the busy group.
var busyConfig = api.Config{TTL: 5, Negative: 50, Stale: 4, Entries: 3, Flight: 9, Batch: 3, Window: 10}

// bustle makes a group with a refresh for which somebody waits, one for which nobody does, a run that was forgotten, one that gathers, one that was left, entries and a cancelled token.
func bustle(t *testing.T) *group.Group {
	t.Helper()
	g := holding(t, busyConfig, 0, kept(a, value(7), 0), kept(b, value(8), 0), kept(long, load(9), 0))
	join(t, g, 5, a, 1, 0, staleLed(1, value(7)))
	join(t, g, 5, b, 2, 0, staleLed(2, value(8)))
	join(t, g, 5, c, 3, 3, led(3, 1, 2, 3))
	join(t, g, 5, c, 4, 4, joined(3))
	forget(t, g, 5, c, api.Forgot{Generation: 1, Run: 3})
	join(t, g, 5, c, 5, 3, led(4))
	join(t, g, 6, empty, 6, 5, led(5))
	leave(t, g, 6, 6, leftBoth(6, 5))
	cancel(t, g, 6, 9)
	join(t, g, 9, a, 7, 3, joined(1))
	return g
}

// bustling is the state of that group.
func bustling() state {
	return on(9, renewed(1, a, 0, 7), renewed(2, b, 0), asked(3, c, 0, 3, 4).past(), asked(4, c, 1, 5), asked(5, empty, 0).left()).
		of(busyConfig).gen(c, 1).gen(empty, 1).gather(15, 4, 5).
		keeps(kept(long, load(9), 0), kept(a, value(7), 0), kept(b, value(8), 0))
}

// put is the same state with another run in a place.
func (s state) put(place int, o one) state {
	s.runs = slices.Clone(s.runs)
	s.runs[place] = o
	return s
}

// cut is the same state without a run.
func (s state) cut(place int) state {
	s.runs = slices.Delete(slices.Clone(s.runs), place, place+1)
	return s
}

// add is the same state with a run more.
func (s state) add(o one) state {
	s.runs = append(slices.Clone(s.runs), o)
	return s
}

// at is the same state at another time.
func (s state) at(now int64) state {
	s.now = now
	return s
}

// TestBustle: the group is as it is told.
func TestBustle(t *testing.T) { same(t, bustle(t), bustling()) }

// TestListsAreNewMemory: what Gathers, Waiters, Progress, Currents and Entries tell shares nothing with what is kept, nor with another answer, and stays as it is (R4).
func TestListsAreNewMemory(t *testing.T) {
	g, want := bustle(t), bustling()
	gathers, waiters, progress, currents, entries := g.Gathers(), g.Waiters(3), g.Progress(), g.Currents(), g.Entries()
	sound := func() {
		t.Helper()
		if !slices.Equal(gathers, []int{4, 5}) || !slices.Equal(waiters, []int{3, 4}) || !slices.Equal(progress, []int{1, 2, 3, 4, 5}) ||
			!slices.Equal(currents, want.currents()) || !slices.Equal(entries, want.entries) {
			t.Fatalf("an answer changed: %v, %v, %v, %v, %v", gathers, waiters, progress, currents, entries)
		}
	}
	spoil(g.Gathers(), 99)
	spoil(g.Waiters(3), 99)
	spoil(g.Progress(), 99)
	spoil(g.Currents(), badRun)
	spoil(g.Entries(), badKept)
	same(t, g, want)
	sound()
	for _, x := range changes(t) {
		x.do(g)
		sound()
		g = bustle(t)
	}
}

// TestAnswersAreNewMemory: the lists in what Join, Cancel, End and Send tell share nothing with what is kept, nor with one another (R4).
func TestAnswersAreNewMemory(t *testing.T) {
	g := bustle(t)
	j, _ := g.Join(9, empty, 8, 0)
	if !slices.Equal(j.Sent, []int{4, 5, 6}) {
		t.Fatalf("sent: %v", j.Sent)
	}
	then := bustling().add(asked(6, empty, 1, 8)).gather(0)
	spoil(j.Sent, 99)
	same(t, g, then)

	g = bustle(t)
	lefts, _ := g.Cancel(9, 3)
	spoil(lefts, badLeft)
	same(t, g, changed(t, "Cancel").at(9))

	g = bustle(t)
	sent, _ := g.Send(15)
	join(t, g, 15, empty, 8, 0, led(6))
	spoil(sent, 99)
	same(t, g, bustling().at(15).add(asked(6, empty, 1, 8)).gather(25, 6))

	g = bustle(t)
	join(t, g, 9, long, 8, 0, hit(load(9)))
	forget(t, g, 9, a, api.Forgot{Kept: true, Generation: 1, Run: 1})
	join(t, g, 9, a, 8, 0, led(6, 4, 5, 6))
	end(t, g, 9, 6, value(1), api.Done{Run: api.Run{Run: 6, Key: a, Generation: 1}, Told: told(value(1), 8), Current: true, Kept: true})
	ended, err := g.End(9, 4, value(2))
	want := api.Done{Run: api.Run{Run: 4, Key: c, Generation: 1}, Told: told(value(2), 5), Current: true, Kept: true, Gone: []api.Key{b}, Left: []int{2}}
	if !equalDone(ended, want) || err != api.OK {
		t.Fatalf("End(9, 4): %+v, %d, not %+v", ended, err, want)
	}
	spoil(ended.Told, badTold)
	if !slices.Equal(ended.Gone, []api.Key{b}) || !slices.Equal(ended.Left, []int{2}) {
		t.Fatalf("spoilt with another list: %+v", ended)
	}
	spoil(ended.Gone, badKey)
	spoil(ended.Left, 99)
	same(t, g, on(9, renewed(1, a, 0, 7).past(), renewed(2, b, 0).left(), asked(3, c, 0, 3, 4).past(), asked(5, empty, 0).left()).
		of(busyConfig).gen(a, 1).gen(b, 1).gen(c, 1).gen(empty, 1).
		keeps(kept(long, load(9), 0), kept(a, value(1), 9), kept(c, value(2), 9)))
}

// change is what can be done to the busy group, and what it is then.
type change struct {
	name string
	do   func(g *group.Group)
	then state
}

// changes is each thing that can be done to it.
func changes(t *testing.T) []change {
	s := bustling()
	l := s.entries
	return []change{
		{"a hit", func(g *group.Group) { join(t, g, 11, long, 8, 0, hit(load(9))) }, s.at(11).keeps(l[1], l[2], l[0])},
		{"joined", func(g *group.Group) { join(t, g, 9, c, 8, 6, joined(4)) }, s.put(3, asked(4, c, 1, 5, 8))},
		{"joined to a refresh", func(g *group.Group) { join(t, g, 9, b, 8, 6, joined(2)) }, s.put(1, renewed(2, b, 0, 8))},
		{"led", func(g *group.Group) { join(t, g, 10, empty, 8, 6, led(6, 4, 5, 6)) }, s.at(10).add(asked(6, empty, 1, 8)).gather(0)},
		{"Leave", func(g *group.Group) { leave(t, g, 10, 3, leftStill(3, 3)) }, s.at(10).put(2, asked(3, c, 0, 4).past())},
		{"Leave of the last one", func(g *group.Group) { leave(t, g, 9, 5, leftBoth(5, 4)) }, s.put(3, asked(4, c, 1).left()).gen(c, 2)},
		{"Leave of a refresh", func(g *group.Group) { leave(t, g, 9, 7, leftStill(7, 1)) }, s.put(0, renewed(1, a, 0))},
		{"Cancel", func(g *group.Group) { cancel(t, g, 12, 3, leftStill(3, 3), leftBoth(5, 4), leftStill(7, 1)) },
			s.at(12).put(0, renewed(1, a, 0)).put(2, asked(3, c, 0, 4).past()).put(3, asked(4, c, 1).left()).gen(c, 2)},
		{"Cancel of nobody", func(g *group.Group) { cancel(t, g, 9, 8) }, s},
		{"Forget", func(g *group.Group) { forget(t, g, 9, a, api.Forgot{Kept: true, Generation: 1, Run: 1}) },
			s.put(0, renewed(1, a, 0, 7).past()).gen(a, 1).keeps(l[0], l[2])},
		{"Forget of a refresh", func(g *group.Group) {
			forget(t, g, 9, b, api.Forgot{Kept: true, Generation: 1, Run: 2, Cancelled: true})
		}, s.put(1, renewed(2, b, 0).left()).gen(b, 1).keeps(l[:2]...)},
		{"End", func(g *group.Group) {
			end(t, g, 10, 4, value(1), api.Done{Run: s.runs[3].run, Told: told(value(1), 5), Current: true, Kept: true, Gone: []api.Key{long}})
		}, s.at(10).cut(3).keeps(l[1], l[2], kept(c, value(1), 10))},
		{"End of a refresh", func(g *group.Group) {
			end(t, g, 9, 1, value(1), api.Done{Run: s.runs[0].run, Told: told(value(1), 7), Current: true, Kept: true})
		}, s.cut(0).keeps(l[0], l[2], kept(a, value(1), 9))},
		{"End of what was forgotten", func(g *group.Group) {
			end(t, g, 9, 3, load(1), api.Done{Run: s.runs[2].run, Told: told(load(1), 3, 4)})
		}, s.cut(2)},
		{"Send", func(g *group.Group) { send(t, g, 15, 4, 5) }, s.at(15).gather(0)},
		{"Send ahead", func(g *group.Group) { send(t, g, 14) }, s.at(14)},
	}
}

// changed is what the busy group is behind a change.
func changed(t *testing.T, name string) state {
	t.Helper()
	for _, x := range changes(t) {
		if x.name == name {
			return x.then
		}
	}
	t.Fatalf("no change %s", name)
	return state{}
}

// seats is what becomes of each caller that would leave, and which tokens are cancelled.
type seats struct {
	left [10]api.Left
	gone [10]bool
}

// sits asks a group for its seats, and changes nothing.
func sits(g *group.Group) seats {
	var s seats
	for i := range 10 {
		s.left[i], _ = g.Clone().Leave(g.Now(), i)
		_, err := g.Clone().Join(g.Now(), a, 50, i)
		s.gone[i] = err == api.ErrGone
	}
	return s
}

// TestClone: the clone is the same, and neither of the two sees what is done with the other, however far each has gone (16.6).
func TestClone(t *testing.T) {
	begun := sits(bustle(t))
	for _, first := range changes(t) {
		for _, second := range changes(t) {
			g := bustle(t)
			twin := g.Clone()
			if twin == g {
				t.Fatal("the clone is the group itself")
			}
			same(t, twin, bustling())
			first.do(g)
			same(t, twin, bustling())
			if sits(twin) != begun {
				t.Fatalf("the seats of the clone changed by %s: %+v", first.name, sits(twin))
			}
			ahead := sits(g)
			second.do(twin)
			same(t, g, first.then)
			same(t, twin, second.then)
			ruin(g.Clone())
			same(t, g, first.then)
			if sits(g) != ahead {
				t.Fatalf("the seats of the group changed: %+v, not %+v", sits(g), ahead)
			}
		}
	}
}

// ruin does all that can be done to a group.
func ruin(g *group.Group) {
	for token := 1; token < 10; token++ {
		g.Cancel(20, token)
	}
	for _, run := range g.Progress() {
		g.End(20, run, value(99))
	}
	for _, k := range keys {
		g.Forget(20, k)
		g.Join(20, k, 1, 0)
		g.Join(20, k, 2, 11)
	}
	g.Send(90)
}

// TestCloneHasTheConfig: the clone begins, gathers and keeps as the group does (16.6).
func TestCloneHasTheConfig(t *testing.T) {
	c := with(func(c *api.Config) { c.Flight, c.Batch, c.Window, c.Entries = 2, 2, 10, 1 })
	for _, g := range []*group.Group{fresh(t, c), fresh(t, c).Clone(), fresh(t, c).Clone().Clone()} {
		join(t, g, 1, a, 1, 0, led(1))
		same(t, g, on(1, asked(1, a, 0, 1)).of(c).gather(11, 1))
		twin := g.Clone()
		for _, x := range []*group.Group{twin, g} {
			join(t, x, 2, b, 2, 0, led(2, 1, 2))
			join(t, x, 2, empty, 3, 0, busy())
			end(t, x, 3, 1, value(1), api.Done{Run: api.Run{Run: 1, Key: a}, Told: told(value(1), 1), Current: true, Kept: true})
			end(t, x, 3, 2, value(2), api.Done{Run: api.Run{Run: 2, Key: b}, Told: told(value(2), 2), Current: true, Kept: true, Gone: []api.Key{a}})
			join(t, x, 4, a, 3, 0, led(3))
			same(t, x, on(4, asked(3, a, 0, 3)).of(c).gather(14, 3).keeps(kept(b, value(2), 3)))
		}
	}
}

// TestApart: two groups know nothing of one another (R5).
func TestApart(t *testing.T) {
	g, other := bustle(t), bustle(t)
	ruin(g)
	same(t, other, bustling())
	same(t, fresh(t, usual), on(0))
}

// TestNil: every call on a nil Group, with a tick ErrConfig ahead of all else (16.7).
func TestNil(t *testing.T) {
	var g *group.Group
	for range 2 {
		same(t, g, state{})
		for _, now := range append([]int64{0, 1, last}, noTicks...) {
			for _, caller := range append([]int{1, 5}, noCallers...) {
				for _, k := range []api.Key{a, empty, noKeys[0]} {
					noJoin(t, g, api.ErrConfig, now, k, caller, 0)
					noJoin(t, g, api.ErrConfig, now, k, caller, -1)
					noForget(t, g, api.ErrConfig, now, k)
				}
				noLeave(t, g, api.ErrConfig, now, caller)
				noCancel(t, g, api.ErrConfig, now, caller)
				noEnd(t, g, api.ErrConfig, now, caller, value(1), noOutcomes[0])
			}
			noSend(t, g, api.ErrConfig, now)
		}
		if g.Clone() != nil || g.Memo() != nil {
			t.Fatalf("Clone, Memo: %v, %v", g.Clone(), g.Memo())
		}
	}
}

// TestZero: a group that no call gave does no harm (R1).
func TestZero(t *testing.T) {
	for _, g := range []*group.Group{new(group.Group), new(group.Group).Clone()} {
		same(t, g, state{})
		for range 2 {
			g.Join(1, a, 1, 2)
			g.Leave(1, 1)
			g.Cancel(1, 2)
			g.Forget(1, a)
			g.End(1, 1, value(1))
			g.Send(1)
		}
		if m := g.Memo(); m != nil {
			t.Errorf("Memo: %v", m)
		}
		if len(g.Entries()) != 0 || len(g.Progress()) != 0 || len(g.Gathers()) != 0 || g.Interest(1) != 0 {
			t.Errorf("there is something: %v, %v, %v", g.Entries(), g.Progress(), g.Gathers())
		}
	}
}
