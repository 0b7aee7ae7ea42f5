package shard_test

import (
	"math/rand"
	"runtime"
	"slices"
	"testing"

	"convoy/api"
	"convoy/group"
	"convoy/shard"
)

// TestExamples: the chapter's, and the numbers of other sizes (18.1).
func TestExamples(t *testing.T) {
	numbers := map[int][][]int{
		1:  {{1, 2, 3}},
		2:  {{1, 3, 5}, {2, 4, 6}},
		3:  {{1, 4, 7}, {2, 5, 8}, {3, 6, 9}},
		64: {{1, 65, 129}, {2, 66, 130}},
	}
	for n, places := range numbers {
		s := fresh(t, n, usual)
		for place, runs := range places {
			for i, run := range runs {
				join(t, s, 0, at(n, place, i), run, 0, led(run, run))
			}
		}
	}
	s := fresh(t, 64, usual)
	join(t, s, 0, at(64, 63, 0), 1, 0, led(64, 64))
	join(t, s, 0, at(64, 63, 1), 2, 0, led(128, 128))
}

// lots is what comes by lot, and how often each thing came.
type lots struct {
	*rand.Rand
	met map[string]int
}

func newLots(seed int64) *lots { return &lots{rand.New(rand.NewSource(seed)), map[string]int{}} }

// saw counts a thing that came, if it did.
func (l *lots) saw(name string, did bool) {
	if did {
		l.met[name]++
	}
}

// enough looks that things came often enough to have been tried.
func (l *lots) enough(t *testing.T, names ...string) {
	t.Helper()
	for _, name := range names {
		if l.met[name] < 40 {
			t.Errorf("%s came %d times alone", name, l.met[name])
		}
	}
}

// someConfig is a configuration by lot, in which little is enough to meet every bound.
func (l *lots) someConfig() api.Config {
	return api.Config{
		TTL: l.Int63n(6), Negative: l.Int63n(5), Stale: l.Int63n(20),
		Entries: l.Intn(3), Flight: l.Intn(4) + 1, Batch: l.Intn(3) + 1, Window: l.Int63n(5),
	}
}

// someTick is a number by lot that is a tick behind the time mostly.
func (l *lots) someTick(time int64) int64 {
	switch l.Intn(40) {
	case 0:
		return noTicks[l.Intn(len(noTicks))]
	case 1:
		return time - 1 - l.Int63n(3)
	case 2:
		return min(time+l.Int63n(12), last)
	}
	return min(time+l.Int63n(4)/2, last)
}

// someKey is a key by lot, of few, of which some come often, seldom one that may not be.
func (l *lots) someKey() api.Key {
	if l.Intn(40) == 0 {
		return noKeys[l.Intn(len(noKeys))]
	}
	if l.Intn(3) == 0 {
		return few[l.Intn(len(few))]
	}
	return few[l.Intn(7)]
}

// someOutcome is an outcome by lot, a value mostly, seldom one that may not be.
func (l *lots) someOutcome() api.Outcome {
	switch l.Intn(12) {
	case 0:
		return noOutcomes[l.Intn(len(noOutcomes))]
	case 1, 2:
		return load(l.Intn(5) + 1)
	case 3:
		return failure(api.FailAbort, 0, 1)
	}
	return value(l.Int63n(100))
}

// someRun is a run by lot, one that is in progress mostly.
func (l *lots) someRun(progress []int) int {
	if len(progress) > 0 && l.Intn(8) > 0 {
		return progress[l.Intn(len(progress))]
	}
	return l.Intn(60) - 3
}

// someToken is a token by lot, of those that were not used as yet mostly, and seldom none that may be.
func (l *lots) someToken(step int) int {
	switch l.Intn(12) {
	case 0:
		return -1 - l.Intn(2)
	case 1, 2, 3:
		return 0
	}
	return max(step/20+l.Intn(4)-1, 0)
}

// stepJoin lets a caller ask by lot.
func (l *lots) stepJoin(t *testing.T, s *shard.Shards, p *plain, now int64, step int) {
	t.Helper()
	k, caller, token := l.someKey(), l.Intn(12), l.someToken(step)
	elsewhere := p.waits(caller) >= 0 && p.waits(caller) != placeOf(k, len(p.groups))
	want, wrong := p.join(now, k, caller, token)
	got, err := s.Join(now, k, caller, token)
	if !equal(got, want) || err != wrong {
		t.Fatalf("Join(%d, %v, %d, %d): %+v, %d, not %+v, %d", now, k, caller, token, got, err, want, wrong)
	}
	l.met[[]string{"refused", "hit", "stale", "joined", "busy", "led"}[got.How]]++
	l.saw("several sent", len(got.Sent) > 1)
	l.saw("gathers", got.Begun && len(got.Sent) == 0)
	l.saw("waits elsewhere", err == api.ErrWaits && elsewhere)
	l.saw("waits there", err == api.ErrWaits && !elsewhere)
	l.saw("token gone", err == api.ErrGone)
}

// stepLeave lets a caller leave, or all by a token, by lot.
func (l *lots) stepLeave(t *testing.T, s *shard.Shards, p *plain, now int64, step int) {
	t.Helper()
	if l.Intn(2) > 0 {
		caller := l.Intn(13) - 1
		want, wrong := p.leave(now, caller)
		got, err := s.Leave(now, caller)
		if got != want || err != wrong {
			t.Fatalf("Leave(%d, %d): %+v, %d, not %+v, %d", now, caller, got, err, want, wrong)
		}
		l.saw("left", err == api.OK)
		l.saw("abandoned", got.Abandoned)
		return
	}
	token := l.someToken(step)
	want, wrong := p.cancel(now, token)
	got, err := s.Cancel(now, token)
	if !slices.Equal(got, want) || err != wrong {
		t.Fatalf("Cancel(%d, %d): %+v, %d, not %+v, %d", now, token, got, err, want, wrong)
	}
	n := len(p.groups)
	l.saw("several groups left", len(got) > 1 && got[0].Run%n != got[len(got)-1].Run%n)
}

// stepForget forgets a key by lot.
func (l *lots) stepForget(t *testing.T, s *shard.Shards, p *plain, now int64) {
	t.Helper()
	k := l.someKey()
	want, wrong := p.forget(now, k)
	got, err := s.Forget(now, k)
	if got != want || err != wrong {
		t.Fatalf("Forget(%d, %v): %+v, %d, not %+v, %d", now, k, got, err, want, wrong)
	}
	l.saw("forgotten, with a run", got.Run > 0)
	l.saw("forgotten, with an entry", got.Kept)
}

// stepEnd ends a run by lot.
func (l *lots) stepEnd(t *testing.T, s *shard.Shards, p *plain, now int64) {
	t.Helper()
	run, o := l.someRun(s.Progress()), l.someOutcome()
	want, wrong := p.end(now, run, o)
	got, err := s.End(now, run, o)
	if !equalDone(got, want) || err != wrong {
		t.Fatalf("End(%d, %d, %v): %+v, %d, not %+v, %d", now, run, o, got, err, want, wrong)
	}
	l.saw("no run", err == api.ErrRun)
	l.saw("kept", got.Kept)
	l.saw("gone", len(got.Gone) > 0)
	l.saw("gone and left", len(got.Left) > 0)
	l.saw("several told", len(got.Told) > 1)
}

// stepSend sends what is due.
func (l *lots) stepSend(t *testing.T, s *shard.Shards, p *plain, now int64) {
	t.Helper()
	want, wrong := p.send(now)
	got, err := s.Send(now)
	if !slices.EqualFunc(got, want, slices.Equal) || err != wrong {
		t.Fatalf("Send(%d): %v, %d, not %v, %d", now, got, err, want, wrong)
	}
	l.saw("one load is due", len(got) == 1)
	l.saw("several loads are due", len(got) > 1)
}

// stepResize asks for other shards by lot, which are those to go on with, if there are some.
func (l *lots) stepResize(t *testing.T, s *shard.Shards, p *plain, now int64) (*shard.Shards, *plain) {
	t.Helper()
	n := l.Intn(6)
	if l.Intn(3) > 0 {
		for _, run := range s.Progress() {
			s.End(p.now, run, value(1))
			p.end(p.now, run, value(1))
		}
	}
	other, gone, err := s.Resize(now, n)
	want, went, wrong := p.resize(t, now, n)
	if !slices.Equal(gone, went) || err != wrong || (other != nil) != (err == api.OK) {
		t.Fatalf("Resize(%d, %d): %v, %d, not %v, %d", now, n, gone, err, went, wrong)
	}
	l.saw("moving", err == api.ErrMoving)
	if err != api.OK {
		return s, p
	}
	same(t, s, p)
	sameSeats(t, s, p)
	l.saw("fewer", other.Len() < s.Len())
	l.saw("more", other.Len() > s.Len())
	l.saw("too many", len(gone) > 0)
	return other, want
}

// step plays one step by lot on shards and on plain ones, and answers those to go on with.
func (l *lots) step(t *testing.T, s *shard.Shards, p *plain, step int) (*shard.Shards, *plain) {
	t.Helper()
	now := l.someTick(p.now)
	switch what := l.Intn(100); {
	case what < 55:
		l.stepJoin(t, s, p, now, step)
	case what < 68:
		l.stepLeave(t, s, p, now, step)
	case what < 72:
		l.stepForget(t, s, p, now)
	case what < 90:
		l.stepEnd(t, s, p, now)
	case what < 98:
		l.stepSend(t, s, p, now)
	default:
		return l.stepResize(t, s, p, now)
	}
	return s, p
}

// TestLikePlain plays steps by lot on shards, their clones and plain ones (18.1 to 18.4).
func TestLikePlain(t *testing.T) {
	l := newLots(18)
	for range 300 {
		c, n := l.someConfig(), l.Intn(5)+1
		shards, plains := []*shard.Shards{fresh(t, n, c)}, []*plain{newPlain(t, n, c)}
		for step := range 250 {
			i := l.Intn(len(shards))
			shards[i], plains[i] = l.step(t, shards[i], plains[i], step)
			same(t, shards[i], plains[i])
			if len(shards) < 4 && l.Intn(60) == 0 {
				shards, plains = append(shards, shards[i].Clone()), append(plains, plains[i].clone())
			}
		}
		for i, s := range shards {
			same(t, s, plains[i])
			sameSeats(t, s, plains[i])
		}
	}
	l.enough(t, "refused", "hit", "stale", "joined", "busy", "led", "several sent", "gathers", "waits elsewhere", "waits there", "token gone",
		"left", "abandoned", "several groups left", "forgotten, with a run", "forgotten, with an entry",
		"no run", "kept", "gone", "gone and left", "several told", "one load is due", "several loads are due",
		"moving", "fewer", "more", "too many")
}

// likeOne plays one step by lot on one shard and on a group, and holds what both answer against each other.
func (l *lots) likeOne(t *testing.T, s *shard.Shards, g *group.Group, step int) {
	t.Helper()
	now, k, caller, token, run, o := l.someTick(g.Now()), l.someKey(), l.Intn(12), l.someToken(step), l.someRun(g.Progress()), l.someOutcome()
	same := true
	var errs [2]api.Errno
	switch what := l.Intn(100); {
	case what < 55:
		x, err := s.Join(now, k, caller, token)
		y, other := g.Join(now, k, caller, token)
		same, errs = equal(x, y), [2]api.Errno{err, other}
	case what < 64:
		x, err := s.Leave(now, caller)
		y, other := g.Leave(now, caller)
		same, errs = x == y, [2]api.Errno{err, other}
	case what < 68:
		x, err := s.Cancel(now, token)
		y, other := g.Cancel(now, token)
		same, errs = slices.Equal(x, y), [2]api.Errno{err, other}
	case what < 72:
		x, err := s.Forget(now, k)
		y, other := g.Forget(now, k)
		same, errs = x == y, [2]api.Errno{err, other}
	case what < 90:
		x, err := s.End(now, run, o)
		y, other := g.End(now, run, o)
		same, errs = equalDone(x, y), [2]api.Errno{err, other}
	default:
		x, err := s.Send(now)
		y, other := g.Send(now)
		same, errs = len(x) == min(len(y), 1) && slices.Equal(slices.Concat(x...), y), [2]api.Errno{err, other}
	}
	if !same || errs[0] != errs[1] {
		t.Fatalf("unlike at %d: %v, %d, %d, %d, %v: the errors %v", now, k, caller, token, run, o, errs)
	}
	l.saw("well", errs[0] == api.OK)
	l.saw("with an error", errs[0] != api.OK)
}

// TestOneLikeAGroup: of one shard all is as of the group alone (18.5).
func TestOneLikeAGroup(t *testing.T) {
	l := newLots(185)
	for range 200 {
		c := l.someConfig()
		s, g := fresh(t, 1, c), freshGroup(t, c)
		for step := range 200 {
			l.likeOne(t, s, g, step)
			due, gathers := s.Next()
			ownDue, ownGathers := g.Next()
			if due != ownDue || gathers != ownGathers || !slices.Equal(s.Progress(), g.Progress()) || s.Entries() != len(g.Entries()) {
				t.Fatalf("unlike: %d, %t, %v, %d and %d, %t, %v, %v", due, gathers, s.Progress(), s.Entries(), ownDue, ownGathers, g.Progress(), g.Entries())
			}
			if !slices.Equal(s.Loads(), []int{len(g.Progress())}) || s.Place(l.someKey()) != 0 || timeOf(s) != g.Now() {
				t.Fatalf("unlike: %v, %v, %d, %d", s.Loads(), g.Progress(), timeOf(s), g.Now())
			}
			if got, want := say(s.Group(0)), say(g); got != want {
				t.Fatalf("unlike: %s, %s", got, want)
			}
		}
		if got, want := saySeats(s.Group(0)), saySeats(g); got != want {
			t.Fatalf("unlike: %s, %s", got, want)
		}
	}
	l.enough(t, "well", "with an error")
}

// TestOtherPlaces: what happens to keys of one place changes no Join of a key of another place, as long as callers and tokens are others (18.5).
func TestOtherPlaces(t *testing.T) {
	l := newLots(1852)
	for range 200 {
		n, c := l.Intn(4)+2, l.someConfig()
		place := l.Intn(n)
		alone, both := fresh(t, n, c), fresh(t, n, c)
		now := int64(0)
		for range 150 {
			now += l.Int63n(4) / 2
			k, caller := few[l.Intn(len(few))], l.Intn(6)+1
			mine := placeOf(k, n) == place
			if !mine {
				caller += 100
			}
			switch l.Intn(6) {
			case 0, 1, 2:
				got, err := both.Join(now, k, caller, caller)
				if !mine {
					break
				}
				if want, wrong := alone.Join(now, k, caller, caller); !equal(got, want) || err != wrong {
					t.Fatalf("Join(%d, %v, %d): %+v, %d, not %+v, %d", now, k, caller, got, err, want, wrong)
				}
				l.met[[]string{"refused", "hit", "stale", "joined", "busy", "led"}[got.How]]++
			case 3:
				both.Forget(now, k)
				if mine {
					alone.Forget(now, k)
				}
			case 4:
				both.Leave(now, caller)
				if mine {
					alone.Leave(now, caller)
				}
			case 5:
				run, o := l.someRun(both.Progress()), l.someOutcome()
				both.End(now, run, o)
				if run > 0 && (run-1)%n == place {
					alone.End(now, run, o)
				}
			}
		}
	}
	l.enough(t, "refused", "hit", "stale", "joined", "busy", "led")
}

// TestNumbersOnce: no run's number is told twice as one that is begun, sent or ended (18.5).
func TestNumbersOnce(t *testing.T) {
	l := newLots(1853)
	for range 100 {
		n := l.Intn(6) + 1
		s := fresh(t, n, l.someConfig())
		begun, sent, ended := map[int]int{}, map[int]int{}, map[int]int{}
		once := func(of map[int]int, what string, run int) {
			t.Helper()
			of[run]++
			if of[run] > 1 || run < 1 {
				t.Fatalf("%d was %s %d times", run, what, of[run])
			}
		}
		now := int64(0)
		for step := range 200 {
			now += l.Int63n(4) / 2
			switch l.Intn(8) {
			case 0, 1, 2, 3:
				k := l.someKey()
				j, _ := s.Join(now, k, l.Intn(12), l.someToken(step))
				if j.Begun {
					once(begun, "begun", j.Run)
					if (j.Run-1)%n != placeOf(k, n) {
						t.Fatalf("%d of the place %d of %d", j.Run, placeOf(k, n), n)
					}
				}
				for _, run := range j.Sent {
					once(sent, "sent", run)
				}
			case 4:
				s.Cancel(now, l.someToken(step))
			case 5:
				s.Forget(now, l.someKey())
			case 6:
				if d, err := s.End(now, l.someRun(s.Progress()), l.someOutcome()); err == api.OK {
					once(ended, "ended", d.Run.Run)
				}
			case 7:
				loads, _ := s.Send(now)
				for _, load := range loads {
					for _, run := range load {
						once(sent, "sent", run)
					}
				}
			}
		}
		l.met["begun"] += len(begun)
		for _, of := range []map[int]int{sent, ended} {
			for run := range of {
				if begun[run] != 1 {
					t.Fatalf("%d was never begun", run)
				}
			}
		}
	}
	l.enough(t, "begun")
}

// many is so many that a search through all that is would not end in time.
const many = 1 << 17

// TestMany: as many as there are wait in all groups, leave out of turn, by their tokens, and are told (18.1).
func TestMany(t *testing.T) {
	s := fresh(t, 64, api.Config{TTL: 5, Entries: 10, Flight: 4096, Batch: 1})
	keys := make([]api.Key, 64)
	for place := range keys {
		keys[place] = at(64, place, 0)
	}
	for caller := 1; caller <= many; caller++ {
		j, err := s.Join(0, keys[caller%64], caller, caller%4)
		if j.Run != caller%64+1 || err != api.OK {
			t.Fatalf("Join of %d: %+v, %d", caller, j, err)
		}
	}
	for caller := many; caller > 0; caller-- {
		if caller%4 == 2 && caller > 64 {
			leave(t, s, 0, caller, leftStill(caller, caller%64+1))
		}
	}
	if lefts, err := s.Cancel(0, 3); len(lefts) != many/4 || err != api.OK {
		t.Fatalf("%d left, %d", len(lefts), err)
	}
	count := 0
	for _, run := range s.Progress() {
		d, _ := s.End(0, run, value(7))
		count += len(d.Told)
	}
	if count != many/2+16 {
		t.Fatalf("%d were told", count)
	}
	for caller := 1; caller <= many; caller++ {
		if caller%64%4 != 3 {
			join(t, s, 0, keys[caller%64], caller, 0, hit(value(7)))
		}
	}
}

// weight is how many bytes a clone of shards takes.
func weight(s *shard.Shards) uint64 {
	var before, after runtime.MemStats
	runtime.ReadMemStats(&before)
	twin := s.Clone()
	runtime.ReadMemStats(&after)
	runtime.KeepAlive(twin)
	return after.TotalAlloc - before.TotalAlloc
}

// TestNothingIsKeptOfWhatEnded: of runs that ended, and of who waited for them, left, or was refused, nothing is kept but what the configuration says.
func TestNothingIsKeptOfWhatEnded(t *testing.T) {
	s := fresh(t, 4, api.Config{TTL: 5, Negative: 5, Stale: 5, Entries: 3, Flight: 2, Batch: 2, Window: 3})
	for i := range 40000 {
		now, k := int64(i), api.Key{Space: uint16(i), Name: "m"}
		j, err := s.Join(now, k, 4*i+1, 4*i+1)
		if j.How != api.HowLed || err != api.OK {
			t.Fatalf("Join(%d): %+v, %d", i, j, err)
		}
		join(t, s, now, k, 4*i+2, 4*i+2, joined(j.Run))
		join(t, s, now, k, 4*i+3, 1, joined(j.Run))
		leave(t, s, now, 4*i+2, leftStill(4*i+2, j.Run))
		if d, err := s.End(now, j.Run, value(7)); !d.Kept || len(d.Told) != 2 || err != api.OK {
			t.Fatalf("End(%d): %+v, %d", i, d, err)
		}
		join(t, s, now, k, 4*i+4, 4*i+4, hit(value(7)))
		s.Send(now)
	}
	if bytes := weight(s); bytes > 100000 {
		t.Errorf("nothing is in progress, and the shards take %d bytes", bytes)
	}
}
