package memo_test

import (
	"math"
	"slices"
	"strconv"
	"strings"
	"testing"

	"convoy/api"
	"convoy/memo"
)

// The calls are those that the chapter lists: a change of one does not compile.
var (
	_ func(api.Config) api.Errno                                                 = memo.Check
	_ func(api.Config) (*memo.Memo, api.Errno)                                   = memo.New
	_ func(api.Config, int64, []api.Kept) (*memo.Memo, int, api.Errno)           = memo.Of
	_ func(*memo.Memo, int64, api.Key) (api.Seen, api.Errno)                     = (*memo.Memo).Look
	_ func(*memo.Memo, int64, api.Key) (api.Seen, api.Errno)                     = (*memo.Memo).Tell
	_ func(*memo.Memo, int64, api.Key, api.Outcome) (bool, []api.Key, api.Errno) = (*memo.Memo).Keep
	_ func(*memo.Memo, api.Key) bool                                             = (*memo.Memo).Drop
	_ func(*memo.Memo, int64) ([]api.Key, api.Errno)                             = (*memo.Memo).Sweep
	_ func(*memo.Memo, api.Key) (api.Kept, bool)                                 = (*memo.Memo).Get
	_ func(*memo.Memo) []api.Kept                                                = (*memo.Memo).All
	_ func(*memo.Memo) int                                                       = (*memo.Memo).Len
	_ func(*memo.Memo) int64                                                     = (*memo.Memo).Now
	_ func(*memo.Memo) api.Config                                                = (*memo.Memo).Config
	_ func(*memo.Memo) *memo.Memo                                                = (*memo.Memo).Clone
)

const (
	maxTime    = 1 << 62       // the greatest tick
	maxEntries = 65536         // entries that there may be at most
	most       = math.MaxInt64 // the greatest time
)

// usual is a configuration by which values and failures are kept; no two of its numbers are the same.
var usual = api.Config{TTL: 5, Negative: 2, Stale: 3, Entries: 4, Flight: 7, Batch: 8, Window: 9}

// least and greatest are configurations whose numbers are all as small, and as great, as they may be.
var (
	least    = api.Config{Flight: 1, Batch: 1}
	greatest = api.Config{TTL: most, Negative: most, Stale: most, Entries: maxEntries, Flight: 4096, Batch: 1024, Window: most}
)

// noTicks is numbers that are no ticks.
var noTicks = []int64{-1, -2, math.MinInt64, math.MinInt64 + 1, maxTime + 1, maxTime + 2, math.MaxInt64}

// named is a key of the space 0.
func named(name string) api.Key { return api.Key{Name: name} }

// keys is a key of the space 0 for each letter.
func keys(letters string) []api.Key {
	var l []api.Key
	for _, letter := range strings.Split(letters, "") {
		l = append(l, named(letter))
	}
	return l
}

// long is a name of n bytes.
func long(n int) string { return strings.Repeat("n", n) }

// noKeys is keys that may not be.
var noKeys = []api.Key{named(long(65)), named(long(66)), named(strings.Repeat("é", 33)), {Space: math.MaxUint16, Name: long(65)}}

// others is keys that no test keeps but as those of which nothing is kept.
var others = []api.Key{named("other"), {Space: 77, Name: "a"}, {Space: 77}, named("aa"), named("A"), named("a\x00"), named(long(63))}

// value is an outcome with a value.
func value(v int64) api.Outcome { return api.Outcome{Value: v} }

// failure is an outcome with a failure.
func failure(kind, code, run int) api.Outcome {
	return api.Outcome{Fail: api.Fail{Kind: kind, Code: code, Run: run}}
}

// load is a failure of a loader.
func load(code int) api.Outcome { return failure(api.FailLoad, code, 1) }

// noOutcomes is outcomes that may not be.
var noOutcomes = []api.Outcome{
	failure(api.FailNone, 1, 0), failure(api.FailNone, 0, 1), failure(api.FailLoad, 0, 0), failure(api.FailLoad, 1, -1),
	failure(api.FailPanic, 1, 0), failure(api.FailCancel, 1, 0), failure(api.FailCancel, 0, 1), failure(api.FailBusy, 0, 1),
	failure(api.FailBusy, 1, 0), failure(api.FailAbort, 0, 0), failure(api.FailAbort, 1, 1), failure(6, 0, 0), failure(6, 0, 1),
	failure(-1, 0, 0), failure(-1, 1, 1), failure(math.MinInt, 0, 1), failure(math.MaxInt, 0, 1),
	{Value: 1, Fail: api.Fail{Kind: api.FailLoad, Code: 1, Run: 1}}, {Value: -1, Fail: api.Fail{Kind: api.FailPanic, Run: 1}},
	{Value: 7, Fail: api.Fail{Kind: api.FailBusy}},
}

// kept is an entry of a key of the space 0.
func kept(name string, o api.Outcome, at int64) api.Kept {
	return api.Kept{Key: named(name), Outcome: o, At: at}
}

// keptValues is an entry with a value for each letter, of the ticks from the first on, and the values that a letter is.
func keptValues(letters string, first int64) []api.Kept {
	var l []api.Kept
	for i, k := range keys(letters) {
		l = append(l, api.Kept{Key: k, Outcome: value(int64(k.Name[0])), At: first + int64(i)})
	}
	return l
}

// fresh makes a memo without entries.
func fresh(t *testing.T, c api.Config) *memo.Memo {
	t.Helper()
	m, err := memo.New(c)
	if m == nil || err != api.OK {
		t.Fatalf("New(%+v): %v, %d", c, m, err)
	}
	return m
}

// of makes a memo with entries.
func of(t *testing.T, c api.Config, now int64, l ...api.Kept) *memo.Memo {
	t.Helper()
	m, place, err := memo.Of(c, now, l)
	if m == nil || place != 0 || err != api.OK {
		t.Fatalf("Of(%+v, %d, %v): %v, %d, %d", c, now, l, m, place, err)
	}
	return m
}

// keep keeps an outcome that is one to keep, and holds those that went against those that should.
func keep(t *testing.T, m *memo.Memo, now int64, k api.Key, o api.Outcome, gone ...api.Key) {
	t.Helper()
	if ok, got, err := m.Keep(now, k, o); !ok || !slices.Equal(got, gone) || err != api.OK {
		t.Fatalf("Keep(%d, %v, %v): %t, %v, %d, not true, %v", now, k, o, ok, got, err, gone)
	}
}

// notKept hands Keep what it does not keep, and looks that all but the time stays as it was.
func notKept(t *testing.T, m *memo.Memo, now int64, k api.Key, o api.Outcome) {
	t.Helper()
	all := m.All()
	if ok, gone, err := m.Keep(now, k, o); ok || len(gone) != 0 || err != api.OK {
		t.Fatalf("Keep(%d, %v, %v): %t, %v, %d, and it is not kept", now, k, o, ok, gone, err)
	}
	same(t, m, m.Config(), now, all...)
}

// same holds all that can be asked of a memo against its configuration, its time and its entries, the one that was used the longest time ago first.
func same(t *testing.T, m *memo.Memo, c api.Config, now int64, want ...api.Kept) {
	t.Helper()
	for range 2 { // asking uses nothing
		if got := m.All(); !slices.Equal(got, want) {
			t.Fatalf("All: %v, not %v", got, want)
		}
		if m.Len() != len(want) || m.Now() != now || m.Config() != c {
			t.Fatalf("Len, Now, Config: %d, %d, %+v, not %d, %d, %+v", m.Len(), m.Now(), m.Config(), len(want), now, c)
		}
		there := map[api.Key]bool{}
		for _, entry := range want {
			there[entry.Key] = true
			if got, ok := m.Get(entry.Key); got != entry || !ok {
				t.Fatalf("Get(%v): %v, %t, not %v", entry.Key, got, ok, entry)
			}
		}
		for _, k := range slices.Concat(others, noKeys, keys("abcdefgh"), []api.Key{{}}) {
			if got, ok := m.Get(k); !there[k] && (got != (api.Kept{}) || ok) {
				t.Fatalf("Get(%v): %v, %t, and there is none", k, got, ok)
			}
		}
	}
}

// bound is a configuration with one field at a number, and whether it may be.
type bound struct {
	name string
	lay  func(c *api.Config)
	may  bool
}

// timeBounds is bounds of a field that is a time.
func timeBounds(name string, field func(c *api.Config) *int64) []bound {
	var l []bound
	for _, n := range []int64{0, 1, 2, maxTime - 1, maxTime, maxTime + 1, most - 1, most, -1, -2, -most, math.MinInt64} {
		l = append(l, bound{name + " " + strconv.FormatInt(n, 10), func(c *api.Config) { *field(c) = n }, n >= 0})
	}
	return l
}

// countBounds is bounds of a field that is a number from the least to the greatest.
func countBounds(name string, least, greatest int, field func(c *api.Config) *int) []bound {
	var l []bound
	for _, n := range []int{least, least + 1, greatest - 1, greatest} {
		l = append(l, bound{name + " " + strconv.Itoa(n), func(c *api.Config) { *field(c) = n }, true})
	}
	for _, n := range []int{least - 1, least - 2, -greatest, math.MinInt, greatest + 1, greatest + 2, 2 * greatest, math.MaxInt} {
		l = append(l, bound{name + " " + strconv.Itoa(n), func(c *api.Config) { *field(c) = n }, false})
	}
	return l
}

// allBounds is each field of a configuration at its bounds and just outside.
func allBounds() []bound {
	return slices.Concat(
		timeBounds("TTL", func(c *api.Config) *int64 { return &c.TTL }),
		timeBounds("Negative", func(c *api.Config) *int64 { return &c.Negative }),
		timeBounds("Stale", func(c *api.Config) *int64 { return &c.Stale }),
		timeBounds("Window", func(c *api.Config) *int64 { return &c.Window }),
		countBounds("Entries", 0, 65536, func(c *api.Config) *int { return &c.Entries }),
		countBounds("Flight", 1, 4096, func(c *api.Config) *int { return &c.Flight }),
		countBounds("Batch", 1, 1024, func(c *api.Config) *int { return &c.Batch }),
	)
}

// judge holds Check, New and Of against whether a configuration may be.
func judge(t *testing.T, name string, c api.Config, may bool) {
	t.Helper()
	want := api.ErrConfig
	if may {
		want = api.OK
	}
	if err := memo.Check(c); err != want {
		t.Errorf("%s: Check: %d, not %d", name, err, want)
	}
	m, err := memo.New(c)
	if (m != nil) != may || err != want {
		t.Errorf("%s: New: %v, %d, not %d", name, m, err, want)
	}
	n, place, err := memo.Of(c, 6, nil)
	if (n != nil) != may || place != 0 || err != want {
		t.Errorf("%s: Of: %v, %d, %d, not %d", name, n, place, err, want)
	}
	if may {
		same(t, m, c, 0)
		same(t, n, c, 6)
	}
}

// TestConfig: each field at its bounds may be, and just outside it may not, whatever the others (10.1).
func TestConfig(t *testing.T) {
	for _, b := range allBounds() {
		for _, c := range []api.Config{usual, least, greatest} {
			b.lay(&c)
			judge(t, b.name, c, b.may)
		}
	}
}

// TestConfigOfTwo: two fields outside don't make up for each other (10.1).
func TestConfigOfTwo(t *testing.T) {
	all := allBounds()
	for _, a := range all {
		for _, b := range all {
			c := usual
			b.lay(&c)
			a.lay(&c)
			same := strings.Fields(a.name)[0] == strings.Fields(b.name)[0]
			want := api.ErrConfig
			if a.may && (b.may || same) {
				want = api.OK
			}
			if err := memo.Check(c); err != want {
				t.Fatalf("%s, %s: Check: %d, not %d", b.name, a.name, err, want)
			}
		}
	}
	judge(t, "of noughts", api.Config{}, false)
}

// TestNew: a new memo has no entries, its time is 0, and it keeps (10.1).
func TestNew(t *testing.T) {
	m := fresh(t, usual)
	same(t, m, usual, 0)
	keep(t, m, 0, named("a"), value(1))
	same(t, m, usual, 0, kept("a", value(1), 0))
	same(t, fresh(t, usual), usual, 0)
}

// TestOf: it has just these entries, with their ticks, and the time (10.1).
func TestOf(t *testing.T) {
	same(t, of(t, usual, 0), usual, 0)
	same(t, of(t, usual, maxTime), usual, maxTime)
	if m, place, err := memo.Of(usual, 3, []api.Kept{}); m == nil || place != 0 || err != api.OK {
		t.Errorf("Of nothing: %v, %d, %d", m, place, err)
	}
	for _, l := range [][]api.Kept{
		{kept("a", value(7), 0)},
		{kept("a", value(7), 10)},
		{kept("a", value(0), 5), kept("b", load(3), 5)},
		{kept("b", value(math.MinInt64), 10), kept("a", value(math.MaxInt64), 0), kept("c", failure(api.FailPanic, -4, math.MaxInt), 9)},
		{kept("", value(1), 1), {Key: api.Key{Space: 1}, Outcome: value(2), At: 1}, kept(long(64), load(0), 1), {Key: api.Key{Space: math.MaxUint16, Name: "a"}, Outcome: value(3), At: 1}},
	} {
		same(t, of(t, usual, 10, l...), usual, 10, l...)
	}
	same(t, of(t, usual, maxTime, kept("a", value(7), maxTime), kept("b", value(8), 0)), usual, maxTime, kept("a", value(7), maxTime), kept("b", value(8), 0))
	same(t, of(t, usual, 0, kept("a", value(7), 0)), usual, 0, kept("a", value(7), 0))
}

// TestOfOld: entries may be old already at that time (10.1).
func TestOfOld(t *testing.T) {
	l := []api.Kept{kept("a", value(1), 0), kept("b", load(1), 0), kept("c", value(2), 93), kept("d", value(3), 96)}
	m := of(t, usual, 100, l...)
	same(t, m, usual, 100, l...)
	for i, how := range []int{api.SeenOld, api.SeenOld, api.SeenStale, api.SeenFresh} {
		if seen, err := m.Look(100, l[i].Key); seen.How != how || err != api.OK {
			t.Errorf("Look(100, %v): %+v, %d, not %d", l[i].Key, seen, err, how)
		}
	}
}

// TestOfOrder: the first was used the longest time ago, whatever the ticks and the keys (10.1).
func TestOfOrder(t *testing.T) {
	l := []api.Kept{kept("c", value(1), 9), kept("a", value(2), 3), kept("d", load(3), 10), kept("b", value(4), 7)}
	m := of(t, usual, 10, l...)
	for i, k := range keys("efgh") {
		keep(t, m, 10, k, value(5), l[i].Key)
	}
	m = of(t, usual, 10, l...)
	if seen, err := m.Tell(10, named("c")); seen.How != api.SeenFresh || err != api.OK {
		t.Errorf("Tell(c): %+v, %d", seen, err)
	}
	keep(t, m, 10, named("e"), value(5), named("a"))
	keep(t, m, 10, named("f"), value(5), named("d"))
	same(t, m, usual, 10, l[3], l[0], kept("e", value(5), 10), kept("f", value(5), 10))
}

// TestOfMany: there may be Entries, and no more (10.1).
func TestOfMany(t *testing.T) {
	for _, n := range []int{0, 1, 2, 5} {
		c := usual
		c.Entries = n
		l := keptValues("abcdefg"[:n], 1)
		same(t, of(t, c, 9, l...), c, 9, l...)
		for more := 1; more <= 2; more++ {
			l = keptValues("abcdefg"[:n+more], 1)
			refused(t, c, 9, l, 0, api.ErrMany)
			l[0].Key = noKeys[0]
			refused(t, c, 9, l, 0, api.ErrMany)
			l[n] = l[0]
			refused(t, c, 9, l, 0, api.ErrMany)
		}
	}
}

// refused hands Of what it must refuse, and looks that it stays as it was.
func refused(t *testing.T, c api.Config, now int64, l []api.Kept, place int, want api.Errno) {
	t.Helper()
	before := slices.Clone(l)
	if m, at, err := memo.Of(c, now, l); m != nil || at != place || err != want {
		t.Fatalf("Of(%+v, %d, %v): %v, %d, %d, not %d, %d", c, now, l, m, at, err, place, want)
	}
	if !slices.Equal(l, before) {
		t.Fatalf("Of changed what it was handed: %v, not %v", l, before)
	}
}

// TestOfTick: the time is a tick, and that is asked behind the configuration and ahead of the entries (10.1).
func TestOfTick(t *testing.T) {
	tooMany := keptValues("abcdefg", 1)
	wrong := []api.Kept{{Key: noKeys[0]}}
	for _, now := range noTicks {
		for _, l := range [][]api.Kept{nil, {kept("a", value(1), 0)}, tooMany, wrong} {
			refused(t, usual, now, l, 0, api.ErrTick)
			refused(t, api.Config{}, now, l, 0, api.ErrConfig)
		}
	}
	for _, l := range [][]api.Kept{nil, tooMany, wrong} {
		refused(t, api.Config{}, 0, l, 0, api.ErrConfig)
	}
}

// fault is what may be wrong with an entry, and the error of it; the first ones go ahead of the others.
type fault struct {
	name string
	lay  func(e *api.Kept)
	err  api.Errno
}

// faults is all that may be wrong with an entry behind another one of the key a, at the time 10, by a configuration that keeps no failures.
func faults() []fault {
	var l []fault
	for _, k := range noKeys {
		l = append(l, fault{"a name of " + strconv.Itoa(len(k.Name)), func(e *api.Kept) { e.Key = k }, api.ErrKey})
	}
	for i, o := range noOutcomes {
		l = append(l, fault{"outcome " + strconv.Itoa(i), func(e *api.Kept) { e.Outcome = o }, api.ErrFail})
	}
	l = append(l, fault{"ahead", func(e *api.Kept) { e.Key = named("a") }, api.ErrArg})
	for i, o := range []api.Outcome{load(1), failure(api.FailPanic, 1, 1), failure(api.FailCancel, 0, 0), failure(api.FailBusy, 0, 0), failure(api.FailAbort, 0, 1)} {
		l = append(l, fault{"not kept " + strconv.Itoa(i), func(e *api.Kept) { e.Outcome = o }, api.ErrArg})
	}
	for _, at := range []int64{-1, -2, math.MinInt64, 11, 12, maxTime, maxTime + 1, math.MaxInt64} {
		l = append(l, fault{"at " + strconv.FormatInt(at, 10), func(e *api.Kept) { e.At = at }, api.ErrArg})
	}
	return l
}

// TestOfWrong: the first entry that may not be is told, with its place (10.1).
func TestOfWrong(t *testing.T) {
	c := usual
	c.Negative = 0
	for _, f := range faults() {
		for place := 1; place < 4; place++ {
			l := keptValues("abcd", 0)
			f.lay(&l[place])
			refused(t, c, 10, l, place, f.err)
		}
		if f.name != "ahead" {
			l := keptValues("abcd", 0)
			f.lay(&l[0])
			refused(t, c, 10, l, 0, f.err)
		}
	}
}

// TestOfWrongTwice: of two things that are wrong with one entry the one that is named first is told, of two entries the first (10.1).
func TestOfWrongTwice(t *testing.T) {
	c := usual
	c.Negative = 0
	all := faults()
	for i, first := range all {
		for _, second := range all[i:] {
			l := keptValues("abcd", 0)
			second.lay(&l[2])
			first.lay(&l[2])
			refused(t, c, 10, l, 2, first.err)
			l = keptValues("abcd", 0)
			first.lay(&l[3])
			second.lay(&l[1])
			refused(t, c, 10, l, 1, second.err)
			l = keptValues("abcd", 0)
			second.lay(&l[2])
			first.lay(&l[1])
			refused(t, c, 10, l, 1, first.err)
		}
	}
}

// TestOfAhead: what stands ahead already may not stand there again, whatever the outcome and the tick; the key alone says so (10.1).
func TestOfAhead(t *testing.T) {
	for _, k := range []api.Key{{}, named("a"), {Space: 3, Name: "b"}, named(long(64))} {
		again := api.Kept{Key: k, Outcome: value(1), At: 2}
		refused(t, usual, 9, []api.Kept{again, again}, 1, api.ErrArg)
		other := api.Kept{Key: k, Outcome: load(1), At: 3}
		refused(t, usual, 9, []api.Kept{again, kept("c", value(1), 2), other}, 2, api.ErrArg)
		refused(t, usual, 9, []api.Kept{kept("c", value(1), 2), again, other, again}, 2, api.ErrArg)
		apart := api.Kept{Key: api.Key{Space: k.Space + 1, Name: k.Name}, Outcome: value(1), At: 2}
		same(t, of(t, usual, 9, again, apart), usual, 9, again, apart)
	}
}

// TestOfNotKept: an entry whose outcome Keep would not keep may not be (10.1).
func TestOfNotKept(t *testing.T) {
	for _, ttl := range []int64{0, 1} {
		for _, negative := range []int64{0, 1} {
			c := api.Config{TTL: ttl, Negative: negative, Stale: 5, Entries: 3, Flight: 1, Batch: 1}
			for _, o := range []api.Outcome{
				value(0), value(7), value(-7), load(1), failure(api.FailPanic, 1, 1),
				failure(api.FailCancel, 0, 0), failure(api.FailBusy, 0, 0), failure(api.FailAbort, 0, 1),
			} {
				isKept := o.Fail.Kind == api.FailNone && ttl > 0 || (o.Fail.Kind == api.FailLoad || o.Fail.Kind == api.FailPanic) && negative > 0
				if l := []api.Kept{kept("a", o, 2)}; isKept {
					same(t, of(t, c, 2, l...), c, 2, l...)
				} else {
					refused(t, c, 2, l, 0, api.ErrArg)
				}
			}
		}
	}
}

// TestOfAt: an entry's tick is from 0 to the time (10.1).
func TestOfAt(t *testing.T) {
	for _, now := range []int64{0, 1, 2, 10, maxTime - 1, maxTime} {
		for _, at := range []int64{0, now, now / 2, max(now-1, 0)} {
			same(t, of(t, usual, now, kept("a", value(1), at)), usual, now, kept("a", value(1), at))
		}
		for _, at := range []int64{-1, -2, math.MinInt64, now + 1, now + 2, math.MaxInt64} {
			refused(t, usual, now, []api.Kept{kept("b", value(1), 0), kept("a", value(1), at)}, 1, api.ErrArg)
		}
	}
}

// TestOfTime: the time that Of was handed is the memo's: ticks below it are refused (10.1).
func TestOfTime(t *testing.T) {
	m := of(t, usual, 10, kept("a", value(1), 4))
	if seen, err := m.Look(9, named("a")); seen != (api.Seen{}) || err != api.ErrBack {
		t.Errorf("Look(9, a): %+v, %d", seen, err)
	}
	if seen, err := m.Look(10, named("a")); seen != (api.Seen{How: api.SeenStale, Age: 6, Outcome: value(1)}) || err != api.OK {
		t.Errorf("Look(10, a): %+v, %d", seen, err)
	}
}

// TestMost: there may be MaxEntries entries, and one more has the one go that was used the longest time ago (10.1, 10.3).
func TestMost(t *testing.T) {
	c := api.Config{TTL: 10, Stale: 5, Entries: maxEntries, Flight: 1, Batch: 1}
	var l []api.Kept
	for i := range maxEntries {
		l = append(l, api.Kept{Key: api.Key{Space: uint16(i % 3), Name: strconv.Itoa(i)}, Outcome: value(int64(i)), At: int64(i % 21)})
	}
	m := of(t, c, 20, l...)
	same(t, m, c, 20, l...)
	refused(t, c, 20, append(slices.Clone(l), kept("a", value(1), 20)), 0, api.ErrMany)
	// Each is told, and kept anew, in a time that does not grow, or this would last.
	for range 2 {
		for _, entry := range l {
			seen, err := m.Tell(20, entry.Key)
			if seen.Age != 20-entry.At || err != api.OK {
				t.Fatalf("Tell(20, %v): %+v, %d", entry.Key, seen, err)
			}
		}
	}
	var old, rest []api.Kept
	for _, entry := range l {
		if age := 20 - entry.At; age < 15 {
			rest = append(rest, entry)
		} else {
			old = append(old, entry)
		}
	}
	same(t, m, c, 20, slices.Concat(old, rest)...)
	full := m.Clone()
	keep(t, full, 20, named("a"), value(1), old[0].Key)
	same(t, full, c, 20, slices.Concat(old[1:], rest, []api.Kept{kept("a", value(1), 20)})...)
	gone, err := m.Sweep(20)
	if len(gone) != len(old) || err != api.OK {
		t.Fatalf("Sweep(20): %d keys, %d, not %d", len(gone), err, len(old))
	}
	same(t, m, c, 20, rest...)
	for _, entry := range rest {
		keep(t, m, 30, entry.Key, entry.Outcome)
	}
	for _, entry := range rest {
		if !m.Drop(entry.Key) {
			t.Fatalf("Drop(%v): false", entry.Key)
		}
	}
	same(t, m, c, 30)
}
