package group_test

import (
	"cmp"
	"maps"
	"math"
	"slices"
	"strings"
	"testing"

	"convoy/api"
	"convoy/group"
	"convoy/memo"
)

// The calls are those that the chapter lists: a change of one does not compile.
var (
	_ func(api.Config) (*group.Group, api.Errno)                           = group.New
	_ func(*memo.Memo) (*group.Group, api.Errno)                           = group.From
	_ func(*group.Group) *memo.Memo                                        = (*group.Group).Memo
	_ func(*group.Group, int64, api.Key, int, int) (api.Joined, api.Errno) = (*group.Group).Join
	_ func(*group.Group, int64, int) (api.Left, api.Errno)                 = (*group.Group).Leave
	_ func(*group.Group, int64, int) ([]api.Left, api.Errno)               = (*group.Group).Cancel
	_ func(*group.Group, int64, api.Key) (api.Forgot, api.Errno)           = (*group.Group).Forget
	_ func(*group.Group, int64, int, api.Outcome) (api.Done, api.Errno)    = (*group.Group).End
	_ func(*group.Group, int64) ([]int, api.Errno)                         = (*group.Group).Send
	_ func(*group.Group) (int64, bool)                                     = (*group.Group).Next
	_ func(*group.Group) []int                                             = (*group.Group).Gathers
	_ func(*group.Group, api.Key) (int, bool)                              = (*group.Group).Current
	_ func(*group.Group, api.Key) int                                      = (*group.Group).Generation
	_ func(*group.Group, int) (api.Run, bool)                              = (*group.Group).Run
	_ func(*group.Group, int) []int                                        = (*group.Group).Waiters
	_ func(*group.Group, int) bool                                         = (*group.Group).Cancelled
	_ func(*group.Group, int) int                                          = (*group.Group).Interest
	_ func(*group.Group) []int                                             = (*group.Group).Progress
	_ func(*group.Group) []api.Run                                         = (*group.Group).Currents
	_ func(*group.Group, api.Key) (api.Kept, bool)                         = (*group.Group).Entry
	_ func(*group.Group) []api.Kept                                        = (*group.Group).Entries
	_ func(*group.Group) api.Config                                        = (*group.Group).Config
	_ func(*group.Group) int64                                             = (*group.Group).Now
	_ func(*group.Group) *group.Group                                      = (*group.Group).Clone
)

const (
	last = 1 << 62       // the last tick
	most = math.MaxInt64 // the greatest time
)

// Keys that differ in one thing alone from another one, where they can.
var (
	a     = api.Key{Name: "a"}
	b     = api.Key{Name: "b"}
	c     = api.Key{Space: 1, Name: "a"}
	empty = api.Key{}
	long  = api.Key{Name: strings.Repeat("n", 64)}
)

// keys is all of them.
var keys = []api.Key{empty, a, b, long, c}

// noKeys is keys that may not be.
var noKeys = []api.Key{{Name: strings.Repeat("n", 65)}, {Space: math.MaxUint16, Name: strings.Repeat("n", 1000)}}

// Numbers that may not be.
var (
	noTicks   = []int64{-1, -2, -last, math.MinInt64, math.MinInt64 + 1, last + 1, last + 2, most}
	noCallers = []int{0, -1, -2, math.MinInt, math.MinInt + 1}
	noTokens  = []int{-1, -2, math.MinInt, math.MinInt + 1}
	noRuns    = []int{0, -1, -2, math.MinInt, 1 << 20, 1<<32 + 1, math.MaxInt}
)

func value(n int64) api.Outcome { return api.Outcome{Value: n} }

func failure(kind, code, run int) api.Outcome {
	return api.Outcome{Fail: api.Fail{Kind: kind, Code: code, Run: run}}
}

func load(run int) api.Outcome { return failure(api.FailLoad, 1, run) }

// outcomes is outcomes that may be, of each kind.
var outcomes = []api.Outcome{
	value(0), value(7), value(-7), value(math.MinInt64), load(1), failure(api.FailPanic, -3, 2),
	failure(api.FailCancel, 0, 0), failure(api.FailBusy, 0, 0), failure(api.FailAbort, 0, 1),
}

// noOutcomes is outcomes that may not be.
var noOutcomes = []api.Outcome{
	failure(api.FailNone, 1, 0), failure(api.FailLoad, 1, 0), failure(api.FailPanic, 1, -1), failure(api.FailCancel, 0, 1),
	failure(api.FailBusy, 1, 0), failure(api.FailAbort, 1, 1), failure(6, 0, 1), failure(-1, 0, 0),
	{Value: 1, Fail: api.Fail{Kind: api.FailLoad, Code: 1, Run: 1}},
}

// usual is a configuration in which everything is.
var usual = api.Config{TTL: 5, Negative: 3, Stale: 4, Entries: 3, Flight: 4, Batch: 1}

// The least and the greatest configuration that may be.
var (
	least    = api.Config{Flight: 1, Batch: 1}
	greatest = api.Config{TTL: most, Negative: most, Stale: most, Entries: 65536, Flight: 4096, Batch: 1024, Window: most}
)

// with is the usual configuration, changed.
func with(change func(c *api.Config)) api.Config {
	c := usual
	change(&c)
	return c
}

// one is all that can be asked of a run in progress.
type one struct {
	run       api.Run
	waiters   []int
	counts    bool // its entry counts as one that waits
	cancelled bool
	current   bool
}

// asked is a current run that callers ask for.
func asked(run int, k api.Key, generation int, callers ...int) one {
	return one{run: api.Run{Run: run, Key: k, Generation: generation}, waiters: callers, current: true}
}

// renewed is a current refresh whose entry is kept.
func renewed(run int, k api.Key, generation int, callers ...int) one {
	o := asked(run, k, generation, callers...)
	o.run.Refresh, o.counts = true, true
	return o
}

// released is the same refresh, whose entry went.
func (o one) released() one {
	o.counts = false
	return o
}

// past is the same run, whose key was forgotten.
func (o one) past() one {
	o.current, o.counts = false, false
	return o
}

// left is the same run, in which nobody is interested any more.
func (o one) left() one {
	o.current, o.counts, o.cancelled, o.waiters = false, false, true, nil
	return o
}

// state is all that can be asked of a group: the runs in progress, rising.
type state struct {
	config      api.Config
	now         int64
	runs        []one
	generations map[api.Key]int
	entries     []api.Kept
	gathers     []int
	due         int64
}

// on is the state of a group of the usual configuration without entries, in which nothing gathers.
func on(now int64, runs ...one) state { return state{config: usual, now: now, runs: runs} }

// of is the same state, of another configuration.
func (s state) of(c api.Config) state {
	s.config = c
	return s
}

// keeps is the same state with entries, the one that was used the longest time ago first.
func (s state) keeps(entries ...api.Kept) state {
	s.entries = entries
	return s
}

// gather is the same state, in which runs gather until a tick.
func (s state) gather(due int64, runs ...int) state {
	s.gathers, s.due = runs, due
	return s
}

// gen is the same state, with a key's generation.
func (s state) gen(k api.Key, generation int) state {
	generations := map[api.Key]int{}
	maps.Copy(generations, s.generations)
	generations[k] = generation
	s.generations = generations
	return s
}

// kept is an entry.
func kept(k api.Key, o api.Outcome, at int64) api.Kept { return api.Kept{Key: k, Outcome: o, At: at} }

// currents is the current runs of a state, in the order of their keys: by spaces, then by names.
func (s state) currents() []api.Run {
	var l []api.Run
	for _, o := range s.runs {
		if o.current {
			l = append(l, o.run)
		}
	}
	slices.SortFunc(l, func(x, y api.Run) int {
		return cmp.Or(cmp.Compare(x.Key.Space, y.Key.Space), cmp.Compare(x.Key.Name, y.Key.Name))
	})
	return l
}

// sameRun holds all that can be asked of a run in progress against what it should be.
func sameRun(t *testing.T, g *group.Group, want one) {
	t.Helper()
	run := want.run.Run
	if got, ok := g.Run(run); got != want.run || !ok {
		t.Fatalf("Run(%d): %+v, %t, not %+v", run, got, ok, want.run)
	}
	if got := g.Waiters(run); !slices.Equal(got, want.waiters) {
		t.Fatalf("Waiters(%d): %v, not %v", run, got, want.waiters)
	}
	interest := len(want.waiters)
	if want.counts {
		interest++
	}
	if g.Cancelled(run) != want.cancelled || g.Interest(run) != interest {
		t.Fatalf("Cancelled, Interest(%d): %t, %d, not %t, %d", run, g.Cancelled(run), g.Interest(run), want.cancelled, interest)
	}
}

// noRun looks that nothing is told of a number that no run in progress has.
func noRun(t *testing.T, g *group.Group, run int) {
	t.Helper()
	if got, ok := g.Run(run); got != (api.Run{}) || ok {
		t.Fatalf("Run(%d): %+v, %t", run, got, ok)
	}
	if got := g.Waiters(run); len(got) != 0 {
		t.Fatalf("Waiters(%d): %v", run, got)
	}
	if g.Cancelled(run) || g.Interest(run) != 0 {
		t.Fatalf("Cancelled, Interest(%d): %t, %d", run, g.Cancelled(run), g.Interest(run))
	}
}

// sameKey holds what can be asked of a key against what it should be.
func sameKey(t *testing.T, g *group.Group, k api.Key, want state) {
	t.Helper()
	current, entry := 0, api.Kept{}
	for _, o := range want.runs {
		if o.current && o.run.Key == k {
			current = o.run.Run
		}
	}
	place := slices.IndexFunc(want.entries, func(e api.Kept) bool { return e.Key == k })
	if place >= 0 {
		entry = want.entries[place]
	}
	if got, ok := g.Current(k); got != current || ok != (current != 0) {
		t.Fatalf("Current(%v): %d, %t, not %d", k, got, ok, current)
	}
	if got := g.Generation(k); got != want.generations[k] {
		t.Fatalf("Generation(%v): %d, not %d", k, got, want.generations[k])
	}
	if got, ok := g.Entry(k); got != entry || ok != (place >= 0) {
		t.Fatalf("Entry(%v): %+v, %t, not %+v", k, got, ok, entry)
	}
}

// sameRuns holds all runs against what they should be.
func sameRuns(t *testing.T, g *group.Group, want state) {
	t.Helper()
	var runs []int
	for _, o := range want.runs {
		runs = append(runs, o.run.Run)
		sameRun(t, g, o)
	}
	if got := g.Progress(); !slices.Equal(got, runs) {
		t.Fatalf("Progress: %v, not %v", got, runs)
	}
	if got := g.Currents(); !slices.Equal(got, want.currents()) {
		t.Fatalf("Currents: %v, not %v", got, want.currents())
	}
	for run := range slices.Max(append(runs, 0)) + 3 {
		if !slices.Contains(runs, run) {
			noRun(t, g, run)
		}
	}
	for _, run := range noRuns {
		noRun(t, g, run)
	}
}

// same holds all that can be asked of a group against what it should be.
func same(t *testing.T, g *group.Group, want state) {
	t.Helper()
	if g.Now() != want.now || g.Config() != want.config {
		t.Fatalf("Now, Config: %d, %+v, not %d, %+v", g.Now(), g.Config(), want.now, want.config)
	}
	due, gathers := g.Next()
	if due != want.due || gathers != (len(want.gathers) > 0) {
		t.Fatalf("Next: %d, %t, not %d", due, gathers, want.due)
	}
	if got := g.Gathers(); !slices.Equal(got, want.gathers) {
		t.Fatalf("Gathers: %v, not %v", got, want.gathers)
	}
	if got := g.Entries(); !slices.Equal(got, want.entries) {
		t.Fatalf("Entries: %v, not %v", got, want.entries)
	}
	sameRuns(t, g, want)
	for _, k := range slices.Concat(keys, noKeys) {
		sameKey(t, g, k, want)
	}
}

// fresh makes a group.
func fresh(t *testing.T, c api.Config) *group.Group {
	t.Helper()
	g, err := group.New(c)
	if g == nil || err != api.OK {
		t.Fatalf("New(%+v): %v, %d", c, g, err)
	}
	return g
}

// memoOf makes a memo.
func memoOf(t *testing.T, c api.Config, now int64, entries ...api.Kept) *memo.Memo {
	t.Helper()
	m, _, err := memo.Of(c, now, entries)
	if m == nil || err != api.OK {
		t.Fatalf("memo.Of(%+v, %d, %v): %d", c, now, entries, err)
	}
	return m
}

// holding makes a group that has entries, at a time.
func holding(t *testing.T, c api.Config, now int64, entries ...api.Kept) *group.Group {
	t.Helper()
	g, err := group.From(memoOf(t, c, now, entries...))
	if g == nil || err != api.OK {
		t.Fatalf("From: %v, %d", g, err)
	}
	return g
}

// TestNumbers: the error and the ways to meet have the numbers that the chapter lists.
func TestNumbers(t *testing.T) {
	got := []int{int(api.ErrWaits), api.HowHit, api.HowStale, api.HowJoined, api.HowBusy, api.HowLed}
	if !slices.Equal(got, []int{160, 1, 2, 3, 4, 5}) {
		t.Errorf("the numbers: %v", got)
	}
}

// TestNew: a group without entries and runs, of each configuration that may be (16.1).
func TestNew(t *testing.T) {
	for _, c := range []api.Config{usual, least, greatest} {
		same(t, fresh(t, c), on(0).of(c))
	}
}

// TestNewWrong: of a configuration that may not be there is none (16.1).
func TestNewWrong(t *testing.T) {
	for _, base := range []api.Config{usual, least, greatest} {
		for _, lay := range []func(c *api.Config){
			func(c *api.Config) { c.TTL = -1 }, func(c *api.Config) { c.TTL = math.MinInt64 },
			func(c *api.Config) { c.Negative = -1 }, func(c *api.Config) { c.Negative = math.MinInt64 },
			func(c *api.Config) { c.Stale = -1 }, func(c *api.Config) { c.Stale = math.MinInt64 },
			func(c *api.Config) { c.Entries = -1 }, func(c *api.Config) { c.Entries = 65537 },
			func(c *api.Config) { c.Flight = 0 }, func(c *api.Config) { c.Flight = -1 }, func(c *api.Config) { c.Flight = 4097 },
			func(c *api.Config) { c.Batch = 0 }, func(c *api.Config) { c.Batch = -1 }, func(c *api.Config) { c.Batch = 1025 },
			func(c *api.Config) { c.Window = -1 }, func(c *api.Config) { c.Window = math.MinInt64 },
			func(c *api.Config) { c.Entries, c.Flight, c.Batch = math.MaxInt, math.MinInt, math.MaxInt },
			func(c *api.Config) { *c = api.Config{} },
		} {
			wrong := base
			lay(&wrong)
			if g, err := group.New(wrong); g != nil || err != api.ErrConfig {
				t.Errorf("New(%+v): %v, %d", wrong, g, err)
			}
		}
	}
}

// TestFrom: a group with the memo's configuration, its entries in their order and its time; none of a nil memo (16.1).
func TestFrom(t *testing.T) {
	for _, now := range []int64{0, 1, 9, last} {
		for _, c := range []api.Config{usual, least, greatest} {
			same(t, holding(t, c, now), on(now).of(c))
		}
		entries := []api.Kept{kept(b, value(1), now/2), kept(a, load(3), now), kept(c, value(-2), 0)}
		for n := range 4 {
			same(t, holding(t, usual, now, entries[:n]...), on(now).keeps(entries[:n]...))
		}
	}
	if g, err := group.From(nil); g != nil || err != api.ErrArg {
		t.Errorf("From(nil): %v, %d", g, err)
	}
}

// TestFromTime: the memo's time is the group's: ticks below it are refused (16.1).
func TestFromTime(t *testing.T) {
	g := holding(t, usual, 9, kept(a, value(7), 5))
	noJoin(t, g, api.ErrBack, 8, a, 1, 0)
	join(t, g, 9, a, 1, 0, hit(value(7)))
}

// TestFromApart: the memo and the group that is made from it go their own way (16.1).
func TestFromApart(t *testing.T) {
	m := memoOf(t, usual, 2, kept(a, value(7), 2), kept(b, value(8), 2))
	g, _ := group.From(m)
	m.Drop(a)
	m.Keep(9, c, value(1))
	same(t, g, on(2).keeps(kept(a, value(7), 2), kept(b, value(8), 2)))
	join(t, g, 3, a, 1, 0, hit(value(7)))
	forget(t, g, 3, b, api.Forgot{Kept: true, Generation: 1})
	if m.Now() != 9 || !slices.Equal(m.All(), []api.Kept{kept(b, value(8), 2), kept(c, value(1), 9)}) {
		t.Errorf("the memo: %d, %v", m.Now(), m.All())
	}
	same(t, g, on(3).keeps(kept(a, value(7), 2)).gen(b, 1))
}

// TestMemo: a copy of what is kept, in its order; neither of the two sees what is done with the other (16.1).
func TestMemo(t *testing.T) {
	for _, c := range []api.Config{usual, least, greatest} {
		if m := fresh(t, c).Memo(); m == nil || m.Config() != c || m.Now() != 0 || m.Len() != 0 {
			t.Fatalf("Memo: %v", m)
		}
	}
	g := holding(t, usual, 2, kept(a, value(7), 2), kept(b, value(8), 2))
	join(t, g, 4, a, 1, 0, hit(value(7)))
	then := on(4).keeps(kept(b, value(8), 2), kept(a, value(7), 2))
	m := g.Memo()
	if m.Now() != 4 || m.Config() != usual || !slices.Equal(m.All(), then.entries) {
		t.Fatalf("Memo: %d, %+v, %v", m.Now(), m.Config(), m.All())
	}
	m.Drop(a)
	m.Keep(9, c, value(1))
	m.Tell(9, b)
	same(t, g, then)
	second := g.Memo()
	forget(t, g, 5, a, api.Forgot{Kept: true, Generation: 1})
	join(t, g, 5, c, 1, 0, led(1, 1))
	end(t, g, 6, 1, value(9), api.Done{Run: api.Run{Run: 1, Key: c}, Told: told(value(9), 1), Current: true, Kept: true})
	if second.Now() != 4 || !slices.Equal(second.All(), then.entries) {
		t.Errorf("an older copy: %d, %v", second.Now(), second.All())
	}
	if third := g.Memo(); third.Now() != 6 || !slices.Equal(third.All(), []api.Kept{kept(b, value(8), 2), kept(c, value(9), 6)}) {
		t.Errorf("a newer copy: %d, %v", third.Now(), third.All())
	}
}

// TestMemoTime: the memo's time goes on where it is asked or keeps, and is never above the group's (16.1; chapter 10).
func TestMemoTime(t *testing.T) {
	g := fresh(t, usual)
	at := func(now, memo int64) {
		t.Helper()
		if got := g.Memo().Now(); got != memo || g.Now() != now {
			t.Fatalf("the times: %d, %d, not %d, %d", g.Now(), got, now, memo)
		}
	}
	join(t, g, 2, a, 1, 0, led(1, 1))
	at(2, 2)
	forget(t, g, 3, a, api.Forgot{Generation: 1, Run: 1})
	at(3, 2)
	end(t, g, 4, 1, value(7), api.Done{Run: api.Run{Run: 1, Key: a}, Told: told(value(7), 1)})
	at(4, 2)
	join(t, g, 5, a, 1, 0, led(2, 2))
	leave(t, g, 6, 1, leftBoth(1, 2))
	cancel(t, g, 7, 9)
	send(t, g, 8)
	at(8, 5)
	join(t, g, 8, a, 1, 0, led(3, 3))
	end(t, g, 9, 3, value(7), api.Done{Run: api.Run{Run: 3, Key: a, Generation: 2}, Told: told(value(7), 1), Current: true, Kept: true})
	at(9, 9)
}

// call is a call with a tick, on a group in which the caller 1 waits for the run 1 of a by the token 3, and which answers OK.
type call struct {
	name string
	do   func(g *group.Group, now int64) api.Errno
}

// calls is every call with a tick.
var calls = []call{
	{"Join", func(g *group.Group, now int64) api.Errno {
		j, err := g.Join(now, b, 2, 0)
		return alone(err, j.How == 0 && j.Run == 0 && !j.Begun && j.Outcome == (api.Outcome{}) && len(j.Sent) == 0)
	}},
	{"Leave", func(g *group.Group, now int64) api.Errno {
		l, err := g.Leave(now, 1)
		return alone(err, l == (api.Left{}))
	}},
	{"Cancel", func(g *group.Group, now int64) api.Errno { l, err := g.Cancel(now, 3); return alone(err, len(l) == 0) }},
	{"Forget", func(g *group.Group, now int64) api.Errno {
		f, err := g.Forget(now, a)
		return alone(err, f == (api.Forgot{}))
	}},
	{"End", func(g *group.Group, now int64) api.Errno {
		d, err := g.End(now, 1, value(7))
		return alone(err, noDone(d))
	}},
	{"Send", func(g *group.Group, now int64) api.Errno { l, err := g.Send(now); return alone(err, len(l) == 0) }},
}

// notAlone is the error of a call that answers something beside an error.
const notAlone api.Errno = -1

func alone(err api.Errno, nothing bool) api.Errno {
	if err != api.OK && !nothing {
		return notAlone
	}
	return err
}

// waiting makes a group in which the caller 1 waits for the run 1 of a by the token 3, since a tick.
func waiting(t *testing.T, now int64) *group.Group {
	t.Helper()
	g := fresh(t, usual)
	join(t, g, now, a, 1, 3, led(1, 1))
	return g
}

// TestTicks: every call with a tick takes ticks from the group's time to the last one, which is its time then, and no others; an error leaves the group as it was (16.1).
func TestTicks(t *testing.T) {
	for _, x := range calls {
		for _, time := range []int64{0, 1, 5, last - 1, last} {
			g := waiting(t, time)
			try := func(now int64, want api.Errno) {
				t.Helper()
				if err := x.do(g, now); err != want {
					t.Fatalf("%s(%d) at %d: %d, not %d", x.name, now, time, err, want)
				}
				if want != api.OK {
					same(t, g, on(time, asked(1, a, 0, 1)))
				}
			}
			for _, now := range noTicks {
				try(now, api.ErrTick)
			}
			for _, now := range []int64{0, time / 2, time - 1} {
				if now >= 0 && now < time {
					try(now, api.ErrBack)
				}
			}
			for _, now := range []int64{time, time + 1, time + 7, last} {
				if now > last {
					continue
				}
				g = waiting(t, time)
				try(now, api.OK)
				if g.Now() != now {
					t.Fatalf("behind %s(%d): %d", x.name, now, g.Now())
				}
			}
		}
	}
}

// TestTicksGoOn: the time that one call was handed is that of all (16.1).
func TestTicksGoOn(t *testing.T) {
	for _, first := range calls {
		for _, second := range calls {
			g := waiting(t, 2)
			first.do(g, 5)
			if err := second.do(g, 4); err != api.ErrBack {
				t.Errorf("%s(4) behind %s(5): %d", second.name, first.name, err)
			}
			if err := second.do(g, 5); err == api.ErrBack || err == notAlone || g.Now() != 5 {
				t.Errorf("%s(5) behind %s(5): %d", second.name, first.name, err)
			}
		}
	}
}

// TestOwnErrorsLeaveTheTime: a call that answers an error of its own did not hand a tick in, and changed nothing (16.1, R2).
func TestOwnErrorsLeaveTheTime(t *testing.T) {
	g := waiting(t, 2)
	cancel(t, g, 3, 4)
	then := on(3, asked(1, a, 0, 1))
	for _, x := range []struct {
		want api.Errno
		do   func(now int64) api.Errno
	}{
		{api.ErrKey, func(now int64) api.Errno { _, err := g.Join(now, noKeys[0], 2, 0); return err }},
		{api.ErrArg, func(now int64) api.Errno { _, err := g.Join(now, a, 0, 0); return err }},
		{api.ErrArg, func(now int64) api.Errno { _, err := g.Join(now, a, 2, -1); return err }},
		{api.ErrGone, func(now int64) api.Errno { _, err := g.Join(now, a, 2, 4); return err }},
		{api.ErrWaits, func(now int64) api.Errno { _, err := g.Join(now, a, 1, 0); return err }},
		{api.ErrNone, func(now int64) api.Errno { _, err := g.Leave(now, 2); return err }},
		{api.ErrArg, func(now int64) api.Errno { _, err := g.Cancel(now, 0); return err }},
		{api.ErrKey, func(now int64) api.Errno { _, err := g.Forget(now, noKeys[0]); return err }},
		{api.ErrRun, func(now int64) api.Errno { _, err := g.End(now, 2, value(1)); return err }},
		{api.ErrFail, func(now int64) api.Errno { _, err := g.End(now, 1, noOutcomes[0]); return err }},
	} {
		for _, now := range []int64{3, 4, 9, last} {
			if err := x.do(now); err != x.want {
				t.Fatalf("at %d: %d, not %d", now, err, x.want)
			}
			same(t, g, then)
			if got := g.Memo().Now(); got != 2 {
				t.Fatalf("the memo's time: %d", got)
			}
		}
		for _, now := range noTicks {
			if err := x.do(now); err != api.ErrTick {
				t.Fatalf("at %d: %d, not %d", now, err, api.ErrTick)
			}
		}
		for _, now := range []int64{0, 2} {
			if err := x.do(now); err != api.ErrBack {
				t.Fatalf("at %d: %d, not %d", now, err, api.ErrBack)
			}
		}
	}
	join(t, g, 3, b, 2, 3, led(2, 2))
}
