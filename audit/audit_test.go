package audit_test

import (
	"math"
	"slices"
	"strings"
	"testing"

	"convoy/api"
	"convoy/audit"
	"convoy/trace"
)

const last = 1 << 62 // the greatest tick

// call is a call of the package, with what it is handed beside the events.
type call func(l []api.Event) (int, bool)

func flight(most int) call {
	return func(l []api.Event) (int, bool) { return audit.Flight(l, most) }
}

func entries(most int) call {
	return func(l []api.Event) (int, bool) { return audit.Entries(l, most) }
}

func ages(c api.Config) call {
	return func(l []api.Event) (int, bool) { return audit.Ages(l, c) }
}

func keeping(c api.Config) call {
	return func(l []api.Event) (int, bool) { return audit.Keeping(l, c) }
}

// calls is all calls but All, by their places in it, with what it hands them.
func calls(c api.Config) []call {
	return []call{audit.One, audit.Generations, audit.Same, audit.Tokens, flight(c.Flight), entries(c.Entries), ages(c), keeping(c), audit.Clocks}
}

var callNames = []string{"One", "Generations", "Same", "Tokens", "Flight", "Entries", "Ages", "Keeping", "Clocks"}

// events is those of some lines, with a semicolon between each two.
func events(t testing.TB, text string) []api.Event {
	t.Helper()
	var l []api.Event
	for line := range strings.SplitSeq(text, "; ") {
		if line == "" {
			continue
		}
		e, err := trace.Parse(line)
		if err != api.OK {
			t.Fatalf("%q is no line", line)
		}
		l = append(l, e)
	}
	return l
}

// answers holds what a call answers of events against a place, -1 if none is broken.
func answers(t testing.TB, what string, x call, l []api.Event, want int) {
	t.Helper()
	for range 2 {
		if at, is := x(l); at != want || is != (want >= 0) {
			t.Fatalf("%s: %d, %t, not %d\n%s", what, at, is, want, told(l))
		}
	}
}

// row is lines, and the place of the first one that is broken, -1 if there is none.
type row struct {
	text string
	want int
}

// table holds what a call answers of some lines.
func table(t testing.TB, x call, rows []row) {
	t.Helper()
	for _, r := range rows {
		answers(t, r.text, x, events(t, r.text), r.want)
	}
}

// told is events as lines.
func told(l []api.Event) string {
	var s strings.Builder
	for _, e := range l {
		line, err := trace.Line(e)
		if err != api.OK {
			line = "no line"
		}
		s.WriteString(line + "\n")
	}
	return s.String()
}

// usual is the configuration by which nothing of sample is broken.
var usual = api.Config{TTL: 5, Negative: 3, Stale: 4, Entries: 1, Flight: 2, Batch: 1}

// sample is events of all kinds, of which none is broken.
const sample = "0 begin r1 k0:a; 0 join c1 n1 r1 h5 k0:a; 0 send r1; 0 join c2 n2 r1 h3 k0:a; 1 leave c2 n2 r1 f3:0:0 k0:a; " + // 0 to 4
	"2 end r1 v7 k0:a; 2 tell c1 n1 r1 v7 k0:a; 2 keep r1 v7 k0:a; 3 join c1 n3 h1 v7 k0:a; 6 join c2 n4 h1 v7 k0:a; " + // 5 to 9
	"7 begin r2 h1 k0:a; 7 join c1 n5 h2 v7 k0:a; 7 send r2; 8 begin r3 k0:b; 8 join c1 n6 r3 h5 k0:b; " + // 10 to 14
	"8 send r3; 8 join c2 n7 h4 f4:0:0 k7:c; 9 end r3 f1:4:3 k0:b; 9 tell c1 n6 r3 f1:4:3 k0:b; 9 keep r3 f1:4:3 k0:b; " + // 15 to 19
	"9 drop k0:a; 9 cancel r2 k0:a; 9 abandon r2 g1 k0:a; 11 join c1 n8 h1 f1:4:3 k0:b; 12 forget c1 g1 k0:b; " + // 20 to 24
	"12 drop k0:b; 12 join c2 n9 h6 f3:0:0 k0:b; 12 end r2 v8 k0:a; 12 begin r4 g1 k0:a; 12 join c3 n10 r4 h5 k0:a; " + // 25 to 29
	"12 leave c3 n10 r4 f3:0:0 k0:a; 12 cancel r4 g1 k0:a; 12 abandon r4 g2 k0:a; 13 end r4 g1 f5:0:4 k0:a" // 30 to 33

// TestNothing: of no events, of nil and of events that break nothing there is -1 (25.1 to 25.5).
func TestNothing(t *testing.T) {
	for _, c := range []api.Config{usual, {}, {TTL: -1, Negative: -1, Stale: -1, Entries: -1, Flight: -1}} {
		for _, l := range [][]api.Event{nil, {}, make([]api.Event, 0, 9), events(t, sample)[:0]} {
			for which, x := range calls(c) {
				answers(t, callNames[which], x, l, -1)
			}
			if which, at, is := audit.All(l, c); which != -1 || at != -1 || is {
				t.Errorf("All: %d, %d, %t", which, at, is)
			}
		}
	}
	l := events(t, sample)
	for n := range l {
		for which, x := range calls(usual) {
			// Of what is cut off behind a Keep the Drop is not there.
			if which != 5 || n != 20 {
				answers(t, callNames[which], x, l[:n], -1)
			}
		}
	}
	if which, at, is := audit.All(l, usual); which != -1 || at != -1 || is {
		t.Errorf("All: %d, %d, %t", which, at, is)
	}
}

// breaking is, for each call, an event that breaks it at any place of sample.
func breaking(t testing.TB) []api.Event {
	t.Helper()
	return []api.Event{
		{Kind: api.EventBegin, Run: math.MinInt},
		{Kind: api.EventForget, Generation: 9},
		{Kind: api.EventLeave, Caller: 99},
		{Kind: api.EventCancel, Run: 99},
		{Kind: api.EventJoin, How: api.HowBusy},
		{Kind: api.EventDrop, Key: api.Key{Space: 9}},
		{Kind: api.EventJoin, How: api.HowHit, Key: api.Key{Space: 9}},
		{Kind: api.EventBegin},
		{At: -1},
	}
}

// TestPlaces: each call tells the first place at which it is broken, be it the first one, one in the midst or the last one, and whatever comes behind (25.1 to 25.5).
func TestPlaces(t *testing.T) {
	l, breaks := events(t, sample), breaking(t)
	for n := 0; n <= len(l); n++ {
		for which, x := range calls(usual) {
			wrong := []api.Event{breaks[which]}
			switch callNames[which] {
			case "One":
				if n == 0 {
					wrong = []api.Event{{Kind: api.EventBegin, Run: -1}, {Kind: api.EventBegin, Run: -1}}
				}
			case "Flight":
				if n > 13 && n < 18 {
					wrong = []api.Event{{Kind: api.EventBegin, Run: 99}}
				}
			case "Entries":
				if n == 20 {
					continue
				}
			case "Keeping":
				k := api.Key{Space: 8}
				wrong = []api.Event{{At: 5, Kind: api.EventKeep, Key: k}, {At: 9, Kind: api.EventBegin, Key: k}}
			}
			at := n + len(wrong) - 1
			for times := range 3 {
				turned := slices.Insert(slices.Clone(l), n, slices.Repeat(wrong, times+1)...)
				answers(t, callNames[which], x, turned, at)
			}
			answers(t, callNames[which], x, append(slices.Clone(l[:n]), wrong...), at)
		}
	}
}

// TestExamples is those of the chapter (25.1, 25.2).
func TestExamples(t *testing.T) {
	a := api.Key{Name: "a"}
	answers(t, "two runs", audit.One, []api.Event{{Kind: api.EventBegin, Run: 1, Key: a}, {Kind: api.EventBegin, Run: 2, Key: a}}, 1)
	answers(t, "told without an end", audit.Same, []api.Event{{Kind: api.EventTell, Caller: 1, Run: 1}}, 0)
}

// TestOtherKinds: events of kinds that are none break nothing but the clock, and change nothing (25.1 to 25.5).
func TestOtherKinds(t *testing.T) {
	l := events(t, sample)
	for _, kind := range []int{math.MinInt, -1, 0, 12, 13, 1 << 32, 1<<32 + 1, 1<<32 + 2, math.MaxInt} {
		for n := range l {
			e := l[n]
			e.Kind = kind
			mixed := slices.Insert(slices.Clone(l), n, e)
			for which, x := range calls(usual) {
				// The one behind a Keep is no Drop then.
				want := -1
				if which == 5 && n == 20 {
					want = 19
				}
				answers(t, callNames[which], x, mixed, want)
			}
		}
	}
}

// TestClocks: ticks that go back, that stand still, that go on, and those that are none (25.5).
func TestClocks(t *testing.T) {
	for _, r := range []struct {
		ticks []int64
		want  int
	}{
		{[]int64{0}, -1}, {[]int64{5}, -1}, {[]int64{last}, -1}, {[]int64{-1}, 0}, {[]int64{last + 1}, 0}, {[]int64{math.MinInt64}, 0}, {[]int64{math.MaxInt64}, 0},
		{[]int64{0, 0}, -1}, {[]int64{5, 5, 5}, -1}, {[]int64{0, 1, 1, 7, last, last}, -1}, {[]int64{0, last}, -1},
		{[]int64{1, 0}, 1}, {[]int64{5, 6, 5}, 2}, {[]int64{5, 6, 5, 6}, 2}, {[]int64{last, last - 1}, 1}, {[]int64{0, 1, 2, 3, 2, 1}, 4}, {[]int64{5, 4, 3}, 1}, {[]int64{5, 0}, 1},
		{[]int64{0, -1}, 1}, {[]int64{5, last + 1}, 1}, {[]int64{5, math.MaxInt64, 6}, 1}, {[]int64{5, 5, math.MinInt64}, 2}, {[]int64{-2, -1}, 0}, {[]int64{last, last + 1}, 1}, {[]int64{last + 1, last + 2}, 0},
		{[]int64{5, 7, 6, 7}, 2}, {[]int64{0, 9, 3, 9, 9, 10}, 2},
	} {
		for kind := range 13 {
			var l []api.Event
			for _, at := range r.ticks {
				l = append(l, api.Event{At: at, Kind: kind})
			}
			answers(t, "Clocks", audit.Clocks, l, r.want)
		}
	}
	// What else an event tells is not looked at.
	answers(t, "Clocks", audit.Clocks, breaking(t)[:8], -1)
}

// TestAll: where several calls are broken at once, the first of them, at whichever places each of them is (25.5).
func TestAll(t *testing.T) {
	l, breaks := events(t, sample), breaking(t)
	k := api.Key{Space: 8}
	// Each breaks that call; those that stand behind it may be broken by it, too.
	wrong := [][]api.Event{
		{{At: 13, Kind: api.EventBegin, Run: 1}},
		{{At: 13, Kind: api.EventForget}},
		{{At: 13, Kind: api.EventLeave, Caller: 99}},
		{{At: 13, Kind: api.EventCancel, Run: 99}},
		{{At: 13, Kind: api.EventJoin, How: api.HowBusy}},
		{{At: 13, Kind: api.EventDrop}},
		{{At: 13, Kind: api.EventJoin, How: api.HowHit}},
		{{At: 13, Kind: api.EventKeep, Key: k}, {At: 13, Kind: api.EventBegin, Run: 9, Key: k}},
		{{At: 12}},
	}
	for first := range wrong {
		for others := range 1 << (len(wrong) - first - 1) {
			// The later a call stands among all, the earlier it is broken.
			turned := slices.Clone(l)
			for which := len(wrong) - 1; which > first; which-- {
				if others>>(which-first-1)&1 == 1 {
					turned = append(turned, wrong[which]...)
				}
			}
			at := len(turned) + len(wrong[first]) - 1
			turned = append(turned, wrong[first]...)
			which, where, is := audit.All(turned, usual)
			if which != first || where != at || !is {
				t.Fatalf("%d, %b: %d, %d, %t, not %d", first, others, which, where, is, at)
			}
		}
	}
	// All of them are broken, each at its first place, in any order.
	for n := range breaks {
		turned := append(slices.Clone(breaks[n:]), breaks[:n]...)
		turned = append(turned, turned...)
		which, where, is := audit.All(turned, usual)
		want, _ := audit.One(turned)
		if which != 0 || where != want || !is {
			t.Errorf("%d, %d, %t, not 0, %d", which, where, is, want)
		}
	}
}

// TestAllConfig: All hands each call what the configuration says for it (25.5).
func TestAllConfig(t *testing.T) {
	l := events(t, sample)
	for _, r := range []struct {
		change    func(c *api.Config)
		which, at int
	}{
		{func(c *api.Config) { c.Flight = 1 }, 4, 13},
		{func(c *api.Config) { c.Flight = 3 }, 4, 16},
		{func(c *api.Config) { c.Flight = 0 }, 4, 0},
		{func(c *api.Config) { c.Entries = 0 }, 5, 7},
		{func(c *api.Config) { c.Entries = 2 }, -1, -1},
		{func(c *api.Config) { c.TTL = 4 }, 6, 9},
		{func(c *api.Config) { c.TTL = 1 }, 6, 8},
		{func(c *api.Config) { c.TTL = 6 }, 6, 11},
		{func(c *api.Config) { c.TTL = -1 }, 6, 8},
		{func(c *api.Config) { c.Negative = 2 }, 6, 23},
		{func(c *api.Config) { c.Negative = 4 }, -1, -1},
		{func(c *api.Config) { c.Stale = 0 }, 6, 11},
		{func(c *api.Config) { c.Stale = -1 }, 6, 11},
		{func(c *api.Config) { c.Stale = 1 }, -1, -1},
		{func(c *api.Config) { c.Batch, c.Window = -1, -1 }, -1, -1},
		{func(c *api.Config) { c.Flight, c.Entries, c.TTL = 3, 0, 6 }, 4, 16},
	} {
		c := usual
		r.change(&c)
		if which, at, is := audit.All(l, c); which != r.which || at != r.at || is != (r.which >= 0) {
			t.Errorf("%+v: %d, %d, %t, not %d, %d", c, which, at, is, r.which, r.at)
		}
	}
	// Without the stale one it is the Begin of the refresh that breaks Keeping.
	c := usual
	c.TTL = 6
	l = slices.Delete(l, 11, 12)
	if which, at, is := audit.All(l, c); which != 7 || at != 10 || !is {
		t.Errorf("%d, %d, %t", which, at, is)
	}
}
