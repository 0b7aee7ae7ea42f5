package tally_test

import (
	"math"
	"math/big"
	"math/rand"
	"slices"
	"testing"

	"convoy/api"
	"convoy/tally"
)

// lots is events by lot, of few runs, callers, keys and ticks.
type lots struct{ *rand.Rand }

func newLots(seed int64) lots { return lots{rand.New(rand.NewSource(seed))} }

func (l lots) one(numbers ...int) int { return numbers[l.Intn(len(numbers))] }

func (l lots) event(at int64) api.Event {
	e := api.Event{
		At: at, Kind: l.Intn(13), Client: l.Intn(2), Caller: l.Intn(5), Run: l.Intn(6), Generation: l.Intn(3), How: l.Intn(8),
		Key: api.Key{Space: uint16(l.Intn(2)), Name: []string{"", "a", "b"}[l.Intn(3)]},
	}
	if l.Intn(3) == 0 {
		e.Kind = l.one(1, 2, 3, 4, 5)
	}
	if l.Intn(3) == 0 {
		e.Outcome.Fail = api.Fail{Kind: l.Intn(7), Code: l.Intn(2)}
	}
	switch l.Intn(30) {
	case 0:
		e.Run = l.one(-1, math.MinInt, math.MaxInt)
	case 1:
		e.Caller = l.one(-1, math.MinInt, math.MaxInt)
	case 2:
		e.Outcome.Fail.Kind = l.one(-1, 6, math.MinInt, math.MaxInt)
	case 3:
		e.Kind = l.one(-1, 0, 12, 1<<32+2, math.MaxInt)
	case 4:
		e.How = l.one(-1, 7, 1<<32+3, math.MinInt)
	}
	return e
}

// list is events by lot; the clock mostly goes on, by little or by much.
func (l lots) list(n int) []api.Event {
	var all []api.Event
	at := l.Int63n(3)
	for range n {
		switch l.Intn(12) {
		case 0, 1:
			at += l.Int63n(5)
		case 2:
			at += l.Int63n(1000)
		case 3:
			at = min(at+last>>l.Intn(62), last)
		}
		e := l.event(at)
		if l.Intn(20) == 0 {
			e.At = []int64{at - 1, at - 4, -1, last, last + 1, math.MaxInt64, math.MinInt64}[l.Intn(7)]
		}
		all = append(all, e)
		if e.Kind == api.EventSend {
			for range l.Intn(4) {
				e.Run += l.one(1, 1, 1, 2, 0, -1)
				all = append(all, e)
			}
		}
	}
	return all
}

// saw is how often something was met with.
type saw map[string]int

func (s saw) enough(t testing.TB, n int, what ...string) {
	t.Helper()
	for _, w := range what {
		if s[w] < n {
			t.Errorf("%s: %d times alone", w, s[w])
		}
	}
}

// alike holds what all calls count of events against what is counted by hand.
func alike(t testing.TB, l []api.Event) {
	t.Helper()
	p := plain(l)
	same(t, "Of", tally.Of(l), p.of())
	same(t, "Waits", tally.Waits(l), p.waits())
	same(t, "Lengths", tally.Lengths(l), p.lengths())
	list(t, "Keys", tally.Keys(l), p.keys())
	list(t, "Loads", tally.Loads(l), p.loads())
	for _, bits := range []int{0, 1, 2, 3, 5, 10, 40, 61, 62} {
		list(t, "Stretches", ofBits(t, l, bits), p.stretches(bits))
	}
	told, runs := tally.Shared(l)
	wantTold, wantRuns := p.shared()
	same(t, "Shared", []int{told, runs}, []int{wantTold, wantRuns})
}

// sum is all counts together.
func sum(counts []int) int {
	all := 0
	for _, n := range counts {
		all += n
	}
	return all
}

// TestLikePlain holds all calls against those by hand, of events by lot (26.1 to 26.3).
func TestLikePlain(t *testing.T) {
	s := saw{}
	for seed := range int64(6000) {
		l := newLots(seed)
		all := l.list(l.Intn(60))
		alike(t, all)
		waits, lengths := tally.Waits(all), tally.Lengths(all)
		for what, is := range map[string]bool{
			"a wait of 0":    waits[0] > 0,
			"a short wait":   sum(waits[1:4]) > 0,
			"a long wait":    sum(waits[20:]) > 0,
			"a short length": sum(lengths[1:4]) > 0,
			"a long length":  sum(lengths[20:]) > 0,
			"a lost wait":    sum(waits[:]) < tally.Of(all).Kinds[4],
			"many runs":      tally.Of(all).Most > 3,
			"a great load":   slices.Max(append(tally.Loads(all), 0)) > 2,
			"many stretches": len(ofBits(t, all, 10)) > 4,
		} {
			if is {
				s[what]++
			}
		}
	}
	s.enough(t, 300, "a wait of 0", "a short wait", "a long wait", "a short length", "a long length", "a lost wait", "many runs", "a great load", "many stretches")
}

// TestTogether: what sums are of two lists is of both together, where neither hangs on the other (26.1 to 26.3).
func TestTogether(t *testing.T) {
	for seed := range int64(2000) {
		l := newLots(100000 + seed)
		one, other := l.list(l.Intn(40)), l.list(l.Intn(40))
		for n := range other {
			other[n].Caller, other[n].Run = other[n].Caller/2+1000, other[n].Run/2+1000
		}
		both := slices.Concat(one, other)
		same(t, "Waits", tally.Add(tally.Waits(one), tally.Waits(other)), tally.Waits(both))
		same(t, "Lengths", tally.Add(tally.Lengths(one), tally.Lengths(other)), tally.Lengths(both))
		merged, of := tally.Merge(tally.Of(one), tally.Of(other)), tally.Of(both)
		if merged.Kinds != of.Kinds || merged.Hows != of.Hows || merged.Ends != of.Ends || merged.Keys > of.Keys || merged.Most > of.Most {
			t.Fatalf("%+v, not %+v", merged, of)
		}
	}
}

// counts is buckets by lot, together 2^62 at most.
func (l lots) counts() [64]int {
	var b [64]int
	left := int64(last)
	for range l.Intn(9) {
		n := l.Intn(64)
		more := l.Int63n(5)
		switch l.Intn(4) {
		case 0:
			more = min(left, l.Int63n(1<<uint(1+l.Intn(62))))
		case 1:
			more = min(left, last>>uint(l.Intn(4)))
		}
		more = min(more, left)
		left -= more
		b[n] += int(more)
	}
	return b
}

// TestQuantileByLot holds Quantile against numbers without any bound, and against its own answers: of part 0 it is 0, and it never falls as part grows (26.2, 26.4).
func TestQuantileByLot(t *testing.T) {
	s := saw{}
	for seed := range int64(4000) {
		l := newLots(200000 + seed)
		b := l.counts()
		of := 1 + l.Intn(12)
		if l.Intn(2) == 0 {
			of = math.MaxInt>>l.Intn(62) - l.Intn(2)*l.Intn(2)
			of = max(of, 1)
		}
		parts := []int{0, 1, of / 2, of - of/2, of - 1, of}
		for range 20 {
			parts = append(parts, l.Intn(of), min(of, l.Intn(20)), max(0, of-l.Intn(20)))
		}
		// Those at which a bucket is just reached, or just not.
		all, soFar := sum(b[:]), 0
		for _, n := range b {
			soFar += n
			if all > 0 {
				at := new(big.Int).Mul(big.NewInt(int64(soFar)), big.NewInt(int64(of)))
				part := int(at.Quo(at, big.NewInt(int64(all))).Int64())
				parts = append(parts, part, max(part, 1)-1, min(part, of-1)+1)
			}
		}
		slices.Sort(parts)
		before := int64(0)
		for _, part := range parts {
			want := quantileByHand(b, part, of)
			quantile(t, b, part, of, want)
			if part == 0 && want != 0 || want < before {
				t.Fatalf("%v, %d, %d: %d behind %d", b, part, of, want, before)
			}
			if want > before && before > 0 {
				s["grows"]++
			}
			before = want
		}
	}
	s.enough(t, 3000, "grows")
}
