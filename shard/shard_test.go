package shard_test

import (
	"fmt"
	"math"
	"slices"
	"strconv"
	"strings"
	"testing"

	"convoy/api"
	"convoy/group"
	"convoy/shard"
)

// The calls are those that the chapter lists: a change of one does not compile.
var (
	_ func(int, api.Config) (*shard.Shards, api.Errno)                      = shard.New
	_ func(*shard.Shards, int64, api.Key, int, int) (api.Joined, api.Errno) = (*shard.Shards).Join
	_ func(*shard.Shards, int64, int) (api.Left, api.Errno)                 = (*shard.Shards).Leave
	_ func(*shard.Shards, int64, int) ([]api.Left, api.Errno)               = (*shard.Shards).Cancel
	_ func(*shard.Shards, int64, api.Key) (api.Forgot, api.Errno)           = (*shard.Shards).Forget
	_ func(*shard.Shards, int64, int, api.Outcome) (api.Done, api.Errno)    = (*shard.Shards).End
	_ func(*shard.Shards, int64) ([][]int, api.Errno)                       = (*shard.Shards).Send
	_ func(*shard.Shards) (int64, bool)                                     = (*shard.Shards).Next
	_ func(*shard.Shards, api.Key) int                                      = (*shard.Shards).Place
	_ func(*shard.Shards, int) *group.Group                                 = (*shard.Shards).Group
	_ func(*shard.Shards) []int                                             = (*shard.Shards).Progress
	_ func(*shard.Shards) int                                               = (*shard.Shards).Entries
	_ func(*shard.Shards) []int                                             = (*shard.Shards).Loads
	_ func(*shard.Shards) int                                               = (*shard.Shards).Len
	_ func(*shard.Shards, int64, int) (*shard.Shards, []api.Key, api.Errno) = (*shard.Shards).Resize
	_ func(*shard.Shards) *shard.Shards                                     = (*shard.Shards).Clone
)

const (
	last = 1 << 62       // the last tick
	most = math.MaxInt64 // the greatest time
)

// Numbers, keys and outcomes that may not be.
var (
	noTicks    = []int64{-1, -2, -last, math.MinInt64, math.MinInt64 + 1, last + 1, last + 2, most}
	noCallers  = []int{0, -1, -2, math.MinInt, math.MinInt + 1}
	noTokens   = []int{-1, -2, math.MinInt, math.MinInt + 1}
	noSizes    = []int{0, -1, -2, math.MinInt, 65, 66, 128, math.MaxInt}
	noKeys     = []api.Key{{Name: strings.Repeat("n", 65)}, {Space: math.MaxUint16, Name: strings.Repeat("m", 1000)}}
	noOutcomes = []api.Outcome{
		failure(api.FailNone, 1, 0), failure(api.FailLoad, 1, 0), failure(api.FailPanic, 1, -1), failure(api.FailCancel, 0, 1),
		failure(api.FailBusy, 1, 0), failure(api.FailAbort, 1, 1), failure(6, 0, 1), failure(-1, 0, 0),
		{Value: 1, Fail: api.Fail{Kind: api.FailLoad, Code: 1, Run: 1}},
	}
)

func value(n int64) api.Outcome { return api.Outcome{Value: n} }

func failure(kind, code, run int) api.Outcome {
	return api.Outcome{Fail: api.Fail{Kind: kind, Code: code, Run: run}}
}

func load(run int) api.Outcome { return failure(api.FailLoad, 1, run) }

// usual is a configuration in which everything is.
var usual = api.Config{TTL: 5, Negative: 3, Stale: 4, Entries: 3, Flight: 4, Batch: 1}

// The least and the greatest configuration that may be.
var (
	least    = api.Config{Flight: 1, Batch: 1}
	greatest = api.Config{TTL: most, Negative: most, Stale: most, Entries: 65536, Flight: 4096, Batch: 1024, Window: most}
)

// with is the usual configuration, changed.
func with(change func(c *api.Config)) api.Config {
	c := usual
	change(&c)
	return c
}

// placeOf is a key's place among n as chapter 2 tells it.
func placeOf(k api.Key, n int) int {
	bytes := append([]byte{byte(k.Space), byte(k.Space >> 8), byte(len(k.Name))}, k.Name...)
	hash := uint64(0xcbf29ce484222325)
	for _, b := range bytes {
		hash = (hash ^ uint64(b)) * 0x100000001b3
	}
	hash = (hash ^ hash>>32) * 0x9e3779b97f4a7c15
	hash ^= hash >> 29
	return int((hash >> 32) * uint64(n) >> 32)
}

// at is a key whose place among n is place: the i-th of them, from 0 on.
func at(n, place, i int) api.Key {
	return atBoth(n, place, 1, 0, i)
}

// atBoth is a key whose place among n is place, and among m is other: the i-th of them, from 0 on.
func atBoth(n, place, m, other, i int) api.Key {
	for j := 0; ; j++ {
		k := api.Key{Space: uint16(j % 5), Name: "k" + strconv.Itoa(j)}
		if placeOf(k, n) != place || placeOf(k, m) != other {
			continue
		}
		if i == 0 {
			return k
		}
		i--
	}
}

// few is the keys whose generations are told of groups: the first three of each place among up to four.
var few = func() []api.Key {
	var l []api.Key
	for n := 1; n <= 4; n++ {
		for place := range n {
			for i := range 3 {
				if k := at(n, place, i); !slices.Contains(l, k) {
					l = append(l, k)
				}
			}
		}
	}
	return l
}()

// say is all that can be asked of a group, but for its seats.
func say(g *group.Group) string {
	var b strings.Builder
	due, gathers := g.Next()
	fmt.Fprintln(&b, g == nil, g.Now(), g.Memo().Now(), g.Config(), due, gathers, g.Gathers(), g.Entries(), g.Currents())
	for _, run := range g.Progress() {
		r, _ := g.Run(run)
		fmt.Fprintln(&b, r, g.Waiters(run), g.Cancelled(run), g.Interest(run))
	}
	for _, k := range few {
		if generation := g.Generation(k); generation > 0 {
			fmt.Fprintln(&b, k, generation)
		}
	}
	return b.String()
}

// saySeats is who would leave what, and which tokens are cancelled, of those with little numbers.
func saySeats(g *group.Group) string {
	var b strings.Builder
	for i := range 12 {
		left, err := g.Clone().Leave(g.Now(), i)
		_, gone := g.Clone().Join(g.Now(), few[0], 9999, i)
		fmt.Fprintln(&b, i, left, err, gone == api.ErrGone)
	}
	return b.String()
}

// nobody is a caller that never waits.
const nobody = 1 << 40

// timeOf is the time of shards: the least tick that is not refused, found by a call that answers an error at every tick.
func timeOf(s *shard.Shards) int64 {
	low, high := int64(0), int64(last)
	for low < high {
		middle := low + (high-low)/2
		if _, err := s.Leave(middle, nobody); err == api.ErrBack {
			low = middle + 1
		} else {
			high = middle
		}
	}
	return low
}

// sayAll is all that can be asked of shards, with their groups and seats.
func sayAll(s *shard.Shards) string {
	var b strings.Builder
	now := timeOf(s)
	due, gathers := s.Next()
	fmt.Fprintln(&b, s == nil, now, s.Len(), s.Loads(), s.Progress(), s.Entries(), due, gathers)
	for place := range s.Len() {
		fmt.Fprintln(&b, say(s.Group(place)), saySeats(s.Group(place)))
	}
	for i := range 12 {
		left, err := s.Clone().Leave(now, i)
		_, gone := s.Clone().Join(now, few[0], 9999, i)
		fmt.Fprintln(&b, i, left, err, gone == api.ErrGone)
	}
	return b.String()
}

// fresh makes shards.
func fresh(t *testing.T, n int, c api.Config) *shard.Shards {
	t.Helper()
	s, err := shard.New(n, c)
	if s == nil || err != api.OK {
		t.Fatalf("New(%d, %+v): %v, %d", n, c, s, err)
	}
	return s
}

// freshGroup makes a group.
func freshGroup(t *testing.T, c api.Config) *group.Group {
	t.Helper()
	g, err := group.New(c)
	if g == nil || err != api.OK {
		t.Fatalf("group.New(%+v): %v, %d", c, g, err)
	}
	return g
}

// stands holds which runs are in progress, how many of each group, and how many entries there are against what should be.
func stands(t *testing.T, s *shard.Shards, entries int, loads, progress []int) {
	t.Helper()
	if s.Entries() != entries || !slices.Equal(s.Loads(), loads) || !slices.Equal(s.Progress(), progress) {
		t.Fatalf("Entries, Loads, Progress: %d, %v, %v, not %d, %v, %v", s.Entries(), s.Loads(), s.Progress(), entries, loads, progress)
	}
}

// next holds when a load is due next against when it should be; below 0 is not at all.
func next(t *testing.T, s *shard.Shards, want int64) {
	t.Helper()
	if due, gathers := s.Next(); due != max(want, 0) || gathers != (want >= 0) {
		t.Fatalf("Next: %d, %t, not %d", due, gathers, want)
	}
}

// TestNumbers: the error and the limit have the numbers that the chapter names.
func TestNumbers(t *testing.T) {
	if api.ErrMoving != 180 || api.MaxShards != 64 {
		t.Errorf("ErrMoving, MaxShards: %d, %d", api.ErrMoving, api.MaxShards)
	}
}

// TestNew: so many groups of one configuration, without entries and runs (18.1).
func TestNew(t *testing.T) {
	for _, n := range []int{1, 2, 3, 63, 64} {
		for _, c := range []api.Config{usual, least, greatest} {
			s := fresh(t, n, c)
			if s.Len() != n || timeOf(s) != 0 {
				t.Fatalf("Len, the time of New(%d): %d, %d", n, s.Len(), timeOf(s))
			}
			stands(t, s, 0, make([]int, n), nil)
			next(t, s, -1)
			for place := range n {
				if got, want := say(s.Group(place)), say(freshGroup(t, c)); got != want {
					t.Fatalf("Group(%d) of New(%d): %s, not %s", place, n, got, want)
				}
			}
		}
	}
}

// wrongConfigs is configurations each of which may not be by one thing, and some that may not be by several.
func wrongConfigs() []api.Config {
	var l []api.Config
	for _, base := range []api.Config{usual, least, greatest} {
		for _, lay := range []func(c *api.Config){
			func(c *api.Config) { c.TTL = -1 }, func(c *api.Config) { c.TTL = math.MinInt64 },
			func(c *api.Config) { c.Negative = -1 }, func(c *api.Config) { c.Negative = math.MinInt64 },
			func(c *api.Config) { c.Stale = -1 }, func(c *api.Config) { c.Stale = math.MinInt64 },
			func(c *api.Config) { c.Entries = -1 }, func(c *api.Config) { c.Entries = 65537 },
			func(c *api.Config) { c.Flight = 0 }, func(c *api.Config) { c.Flight = -1 }, func(c *api.Config) { c.Flight = 4097 },
			func(c *api.Config) { c.Batch = 0 }, func(c *api.Config) { c.Batch = -1 }, func(c *api.Config) { c.Batch = 1025 },
			func(c *api.Config) { c.Window = -1 }, func(c *api.Config) { c.Window = math.MinInt64 },
			func(c *api.Config) { c.Entries, c.Flight, c.Batch = math.MaxInt, math.MinInt, math.MaxInt },
			func(c *api.Config) { *c = api.Config{} },
		} {
			wrong := base
			lay(&wrong)
			l = append(l, wrong)
		}
	}
	return l
}

// TestNewWrong: of so many that may not be there are none, whatever the configuration; then of a configuration that may not be (18.1, R2).
func TestNewWrong(t *testing.T) {
	none := func(n int, c api.Config, want api.Errno) {
		t.Helper()
		if s, err := shard.New(n, c); s != nil || err != want {
			t.Errorf("New(%d, %+v): %v, %d, not %d", n, c, s, err, want)
		}
	}
	for _, n := range noSizes {
		none(n, usual, api.ErrArg)
	}
	for _, c := range wrongConfigs() {
		for _, n := range []int{1, 2, 64} {
			none(n, c, api.ErrConfig)
		}
		for _, n := range noSizes {
			none(n, c, api.ErrArg)
		}
	}
}

// call is a call with a tick that goes well.
type call struct {
	name string
	do   func(s *shard.Shards, now int64) api.Errno
}

// notAlone is the error of a call that answers something beside an error.
const notAlone api.Errno = -1

func alone(err api.Errno, nothing bool) api.Errno {
	if err != api.OK && !nothing {
		return notAlone
	}
	return err
}

// callsAt is every call that hands a tick in, of two shards in each of which one waits (see waiting), to the group of a place.
func callsAt(place int) []call {
	return []call{
		{"Join", func(s *shard.Shards, now int64) api.Errno {
			j, err := s.Join(now, at(2, place, 1), 9+place, 0)
			return alone(err, equal(j, api.Joined{}))
		}},
		{"Leave", func(s *shard.Shards, now int64) api.Errno {
			l, err := s.Leave(now, 1+place)
			return alone(err, l == (api.Left{}))
		}},
		{"Cancel", func(s *shard.Shards, now int64) api.Errno {
			l, err := s.Cancel(now, 3+place)
			return alone(err, len(l) == 0)
		}},
		{"Forget", func(s *shard.Shards, now int64) api.Errno {
			f, err := s.Forget(now, at(2, place, 0))
			return alone(err, f == (api.Forgot{}))
		}},
		{"End", func(s *shard.Shards, now int64) api.Errno {
			d, err := s.End(now, 1+place, value(7))
			return alone(err, noDone(d))
		}},
		{"Send", func(s *shard.Shards, now int64) api.Errno {
			l, err := s.Send(now)
			return alone(err, len(l) == 0)
		}},
	}
}

// waiting makes two shards: in the place 0 the caller 1 waits for the run 1 by the token 3, in the place 1 the caller 2 for the run 2 by the token 4, since the tick 0.
func waiting(t *testing.T) *shard.Shards {
	t.Helper()
	s := fresh(t, 2, usual)
	join(t, s, 0, at(2, 0, 0), 1, 3, led(1, 1))
	join(t, s, 0, at(2, 1, 0), 2, 4, led(2, 2))
	return s
}

// TestTicks: every call takes ticks from the time of all groups to the last one, which is the time then, and no others, whichever group's call told the time; an error leaves all as it was (18.1).
func TestTicks(t *testing.T) {
	for _, tell := range append(callsAt(0), callsAt(1)...) {
		for _, x := range callsAt(0) {
			for _, time := range []int64{0, 1, 5, last - 1, last} {
				told := waiting(t)
				if err := tell.do(told, time); err != api.OK {
					t.Fatalf("%s(%d): %d", tell.name, time, err)
				}
				was := sayAll(told)
				refuse := func(now int64, want api.Errno) {
					t.Helper()
					if err := x.do(told, now); err != want {
						t.Fatalf("%s(%d) behind %s(%d): %d, not %d", x.name, now, tell.name, time, err, want)
					}
				}
				for _, now := range noTicks {
					refuse(now, api.ErrTick)
				}
				for _, now := range []int64{0, time / 2, time - 1} {
					if now >= 0 && now < time {
						refuse(now, api.ErrBack)
					}
				}
				if got := sayAll(told); got != was || timeOf(told) != time {
					t.Fatalf("refused, %s changed %s to %s", x.name, was, got)
				}
			}
		}
	}
}

// TestTicksGoOn: a tick that is the time, or behind it, is taken whichever group's call told the time, and is the time of all then (18.1).
func TestTicksGoOn(t *testing.T) {
	for _, tell := range callsAt(1) {
		for _, x := range callsAt(0) {
			for _, now := range []int64{5, 6, 12, last} {
				s := waiting(t)
				tell.do(s, 5)
				if err := x.do(s, now); err != api.OK || timeOf(s) != now {
					t.Fatalf("%s(%d) behind %s(5): %d, and the time is %d", x.name, now, tell.name, err, timeOf(s))
				}
			}
		}
	}
}

// TestFirstTick: the time is 0 at first, which is a tick (18.1).
func TestFirstTick(t *testing.T) {
	for _, x := range append(callsAt(0), callsAt(1)...) {
		s := waiting(t)
		if err := x.do(s, 0); err != api.OK || timeOf(s) != 0 {
			t.Errorf("%s(0): %d, and the time is %d", x.name, err, timeOf(s))
		}
	}
}

// TestOwnErrorsLeaveTheTime: a call that answers an error of its own did not hand a tick in, and changed nothing (R2).
func TestOwnErrorsLeaveTheTime(t *testing.T) {
	s := waiting(t)
	cancel(t, s, 3, 5)
	was := sayAll(s)
	free := at(2, 1, 1)
	for _, x := range []struct {
		want api.Errno
		do   func(now int64) api.Errno
	}{
		{api.ErrKey, func(now int64) api.Errno { _, err := s.Join(now, noKeys[0], 9, 0); return err }},
		{api.ErrArg, func(now int64) api.Errno { _, err := s.Join(now, free, 0, 0); return err }},
		{api.ErrArg, func(now int64) api.Errno { _, err := s.Join(now, free, 9, -1); return err }},
		{api.ErrGone, func(now int64) api.Errno { _, err := s.Join(now, free, 9, 5); return err }},
		{api.ErrWaits, func(now int64) api.Errno { _, err := s.Join(now, free, 1, 0); return err }},
		{api.ErrWaits, func(now int64) api.Errno { _, err := s.Join(now, free, 2, 0); return err }},
		{api.ErrNone, func(now int64) api.Errno { _, err := s.Leave(now, 9); return err }},
		{api.ErrArg, func(now int64) api.Errno { _, err := s.Cancel(now, 0); return err }},
		{api.ErrKey, func(now int64) api.Errno { _, err := s.Forget(now, noKeys[1]); return err }},
		{api.ErrRun, func(now int64) api.Errno { _, err := s.End(now, 3, value(1)); return err }},
		{api.ErrRun, func(now int64) api.Errno { _, err := s.End(now, 0, value(1)); return err }},
		{api.ErrFail, func(now int64) api.Errno { _, err := s.End(now, 2, noOutcomes[0]); return err }},
		{api.ErrArg, func(now int64) api.Errno { _, _, err := s.Resize(now, 0); return err }},
		{api.ErrMoving, func(now int64) api.Errno { _, _, err := s.Resize(now, 2); return err }},
	} {
		for _, now := range []int64{3, 4, 9, last} {
			if err := x.do(now); err != x.want {
				t.Fatalf("at %d: %d, not %d", now, err, x.want)
			}
		}
		for _, now := range noTicks {
			if err := x.do(now); err != api.ErrTick {
				t.Fatalf("at %d: %d, not %d", now, err, api.ErrTick)
			}
		}
		for _, now := range []int64{0, 2} {
			if err := x.do(now); err != api.ErrBack {
				t.Fatalf("at %d: %d, not %d", now, err, api.ErrBack)
			}
		}
		if got := sayAll(s); got != was {
			t.Fatalf("an error, %d, changed %s to %s", x.want, was, got)
		}
	}
}

// TestNil: every call on nil Shards, with a tick ErrConfig ahead of all else (18.4).
func TestNil(t *testing.T) {
	var s *shard.Shards
	for range 2 {
		for _, now := range append([]int64{0, 1, last}, noTicks...) {
			for _, number := range append([]int{1, 5, 64}, noCallers...) {
				for _, k := range []api.Key{few[0], {}, noKeys[0]} {
					noJoin(t, s, api.ErrConfig, now, k, number, 0)
					noJoin(t, s, api.ErrConfig, now, k, number, -1)
					noForget(t, s, api.ErrConfig, now, k)
				}
				noLeave(t, s, api.ErrConfig, now, number)
				noCancel(t, s, api.ErrConfig, now, number)
				noEnd(t, s, api.ErrConfig, now, number, value(1), noOutcomes[0])
				noResize(t, s, api.ErrConfig, now, number)
			}
			noSend(t, s, api.ErrConfig, now)
		}
		for _, k := range slices.Concat(few, noKeys) {
			if got := s.Place(k); got != 0 {
				t.Fatalf("Place(%v): %d", k, got)
			}
		}
		for _, place := range []int{0, 1, -1, 64, math.MinInt, math.MaxInt} {
			if g := s.Group(place); g != nil {
				t.Fatalf("Group(%d): %v", place, g)
			}
		}
		next(t, s, -1)
		stands(t, s, 0, nil, nil)
		if s.Len() != 0 || s.Clone() != nil {
			t.Fatalf("Len, Clone: %d, %v", s.Len(), s.Clone())
		}
	}
}

// TestZero: shards that no call gave do no harm (R1).
func TestZero(t *testing.T) {
	for _, s := range []*shard.Shards{new(shard.Shards), new(shard.Shards).Clone()} {
		for range 2 {
			s.Join(1, few[0], 1, 2)
			s.Leave(1, 1)
			s.Cancel(1, 2)
			s.Forget(1, few[0])
			s.End(1, 1, value(1))
			s.Send(1)
			s.Resize(1, 2)
		}
		stands(t, s, 0, nil, nil)
		next(t, s, -1)
		if s.Len() != 0 || s.Place(few[0]) != 0 || s.Group(0) != nil {
			t.Errorf("there is something: %d, %v", s.Len(), s.Group(0))
		}
	}
}
