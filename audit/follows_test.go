package audit_test

import (
	"math"
	"math/rand"
	"slices"
	"testing"

	"convoy/api"
	"convoy/audit"
)

// saw counts what was met by lot.
type saw map[string]int

// enough looks that each of some things was met often.
func (s saw) enough(t *testing.T, times int, what ...string) {
	t.Helper()
	for _, one := range what {
		if s[one] < times {
			t.Errorf("%s: met %d times", one, s[one])
		}
	}
}

// alike holds what all calls answer of events against those by hand.
func alike(t testing.TB, l []api.Event, c api.Config) []int {
	t.Helper()
	var at []int
	which, where := -1, -1
	for n, x := range calls(c) {
		want := firstByHand(n, l, c)
		if got, is := x(l); got != want || is != (want >= 0) {
			t.Fatalf("%s by %+v: %d, %t, not %d\n%s", callNames[n], c, got, is, want, told(l))
		}
		if want >= 0 && which < 0 {
			which, where = n, want
		}
		at = append(at, want)
	}
	if gotWhich, gotWhere, is := audit.All(l, c); gotWhich != which || gotWhere != where || is != (which >= 0) {
		t.Fatalf("All by %+v: %d, %d, %t, not %d, %d\n%s", c, gotWhich, gotWhere, is, which, where, told(l))
	}
	return at
}

// lots is events by lot, of few runs, callers, keys and outcomes.
type lots struct{ *rand.Rand }

func newLots(seed int64) lots { return lots{rand.New(rand.NewSource(seed))} }

func (l lots) config() api.Config {
	return api.Config{TTL: l.Int63n(7), Negative: l.Int63n(5), Stale: l.Int63n(7), Entries: l.Intn(3), Flight: 1 + l.Intn(3), Batch: 1}
}

func (l lots) outcome() api.Outcome {
	if l.Intn(3) == 0 {
		return api.Outcome{Fail: api.Fail{Kind: 1 + l.Intn(2), Code: l.Intn(2), Run: 1}}
	}
	return api.Outcome{Value: l.Int63n(3)}
}

// event is any event at a tick; most of its parts are asked by no call.
func (l lots) event(at int64) api.Event {
	e := api.Event{
		At: at, Kind: l.Intn(13), Client: l.Intn(2), Caller: l.Intn(4), Run: l.Intn(5), Generation: l.Intn(3), How: l.Intn(7),
		Key: api.Key{Space: uint16(l.Intn(2)), Name: []string{"", "a"}[l.Intn(2)]}, Outcome: l.outcome(),
	}
	switch l.Intn(30) {
	case 0:
		e.Run = []int{-1, math.MinInt, math.MaxInt}[l.Intn(3)]
	case 1:
		e.Caller = []int{-1, math.MinInt, math.MaxInt}[l.Intn(3)]
	case 2:
		e.Generation = []int{-1, math.MinInt, math.MaxInt}[l.Intn(3)]
	case 3:
		e.Kind = []int{-1, 1<<32 + 2, math.MaxInt}[l.Intn(3)]
	case 4:
		e.How = []int{-1, 7, 1<<32 + 3, math.MinInt}[l.Intn(4)]
	}
	return e
}

// fits makes an event of a kind such as would come next, where there is one.
func (l lots) fits(p plain, e api.Event) api.Event {
	begin, _ := p.last(func(x api.Event) bool { return x.Kind == 2 && l.Intn(2) == 0 })
	join, _ := p.last(func(x api.Event) bool { return x.Kind == 1 && l.Intn(2) == 0 })
	end, _ := p.last(func(x api.Event) bool { return x.Kind == 5 && l.Intn(2) == 0 })
	kept, _ := p.last(func(x api.Event) bool { return x.Kind == 9 && l.Intn(2) == 0 })
	switch e.Kind {
	case 1:
		if e.How == 1 || e.How == 2 {
			e.Key, e.Outcome = kept.Key, kept.Outcome
		} else {
			e.Run, e.Key = begin.Run, begin.Key
		}
		e.Caller = len(p)
	case 2:
		e.Run, e.Generation = len(p), p.generation(e.Key)
	case 4:
		e.Caller, e.Run, e.Outcome = join.Caller, end.Run, end.Outcome
	case 5, 6:
		e.Run, e.Key = begin.Run, begin.Key
	case 7, 8:
		e.Generation = p.generation(e.Key) + 1
	case 10:
		e.Key = kept.Key
	case 11:
		e.Caller, e.Run = join.Caller, join.Run
	}
	return e
}

// list is events by lot that break nothing by one of the calls, or not soon.
func (l lots) list(which, n int, c api.Config) []api.Event {
	var all []api.Event
	at := l.Int63n(3)
	for range n {
		if l.Intn(4) == 0 {
			at += l.Int63n(5)
		}
		e := l.event(at)
		if l.Intn(3) > 0 {
			e = l.fits(all, e)
		}
		if l.Intn(60) == 0 {
			e.At = []int64{at - 1, at - 4, -1, last, last + 1, math.MaxInt64, math.MinInt64}[l.Intn(7)]
		}
		// What is broken is taken seldom; a Keep is broken as long as no Drop is behind it.
		if e.Kind == 9 && l.Intn(2) == 0 || l.Intn(40) == 0 || !byHand[which](all, e, nil, c) {
			all = append(all, e)
		}
	}
	return all
}

// TestLikePlain holds all calls against those by hand, of events by lot (25.1 to 25.5).
func TestLikePlain(t *testing.T) {
	s := saw{}
	for seed := range int64(12000) {
		l := newLots(seed)
		c := l.config()
		if l.Intn(20) == 0 {
			c.TTL, c.Negative, c.Stale = []int64{-1, 5, math.MaxInt64}[l.Intn(3)], []int64{-1, 5, math.MaxInt64}[l.Intn(3)], []int64{-1, 5, math.MaxInt64}[l.Intn(3)]
			c.Entries, c.Flight = l.Intn(4)-2, l.Intn(4)-2
		}
		all := l.list(int(seed%9), l.Intn(40), c)
		for which, at := range alike(t, all, c) {
			name := callNames[which]
			switch {
			case at < 0:
				s[name+" whole"]++
			case at == 0:
				s[name+" at the first"]++
			case at == len(all)-1:
				s[name+" at the last"]++
			case at > 8:
				s[name+" far behind"]++
			}
		}
	}
	for _, name := range callNames {
		s.enough(t, 100, name+" whole", name+" far behind")
		s.enough(t, 20, name+" at the last")
		if name != "One" && name != "Keeping" {
			// Of these two there must be an event ahead.
			s.enough(t, 20, name+" at the first")
		}
	}
}

// TestFirst: what stands behind the first event that is broken changes nothing, nor does it whether others are broken (25.1 to 25.5).
func TestFirst(t *testing.T) {
	for seed := range int64(4000) {
		l := newLots(1000000 + seed)
		c := l.config()
		all := l.list(int(seed%9), 1+l.Intn(40), c)
		for which, x := range calls(c) {
			at, is := x(all)
			if !is {
				continue
			}
			behind := at + 1
			if which == 5 && all[at].Kind == api.EventKeep && behind < len(all) {
				// By what comes next a Keep may be right.
				behind++
			}
			changed := append(slices.Clone(all[:behind]), l.list(0, 20, c)...)
			if behind == at+1 && all[at].Kind == api.EventKeep && which == 5 {
				changed = all[:behind]
			}
			answers(t, callNames[which], x, changed, at)
			answers(t, callNames[which], x, all[:behind], at)
		}
	}
}

// TestNames: keys, runs and callers may be called otherwise, as long as they are as like and unlike as before (25.1 to 25.5).
func TestNames(t *testing.T) {
	for seed := range int64(2000) {
		l := newLots(2000000 + seed)
		c := l.config()
		all := l.list(int(seed%9), l.Intn(40), c)
		other := slices.Clone(all)
		for n := range other {
			// Runs stay in their order.
			other[n].Run = all[n].Run/2 + 1000
			if all[n].Run > -3 && all[n].Run < 100 {
				other[n].Run = all[n].Run*3 - 7
			}
			other[n].Caller = ^all[n].Caller
			other[n].Client = l.Int()
			other[n].Key = api.Key{Space: all[n].Key.Space * 7, Name: all[n].Key.Name + string(make([]byte, 70))}
		}
		for which, x := range calls(c) {
			at, _ := x(all)
			answers(t, callNames[which], x, other, at)
		}
	}
}
