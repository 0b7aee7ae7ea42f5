package memo_test

import (
	"math/big"
	"math/rand"
	"slices"
	"testing"

	"convoy/api"
	"convoy/memo"
)

// TestExamples: the chapter's own.
func TestExamples(t *testing.T) {
	a, b, c := named("a"), named("b"), named("c")
	m := fresh(t, api.Config{TTL: 5, Negative: 2, Stale: 3, Entries: 2, Flight: 1, Batch: 1})
	keep(t, m, 10, a, value(7))
	sees(t, m, 14, a, seen(api.SeenFresh, 4, value(7)))
	sees(t, m, 15, a, seen(api.SeenStale, 5, value(7)))
	sees(t, m, 18, a, seen(api.SeenOld, 8, value(7)))
	keep(t, m, 20, b, load(1))
	sees(t, m, 21, b, seen(api.SeenFresh, 1, load(1)))
	sees(t, m, 22, b, seen(api.SeenOld, 2, load(1)))
	keep(t, m, 22, c, value(1), a)
	if got, err := m.Look(21, c); got != (api.Seen{}) || err != api.ErrBack {
		t.Errorf("Look(21, c): %+v, %d", got, err)
	}
	notKept(t, fresh(t, api.Config{TTL: 5, Entries: 2, Flight: 1, Batch: 1}), 0, a, load(1))
	notKept(t, fresh(t, api.Config{TTL: 5, Flight: 1, Batch: 1}), 0, a, value(7))
	notKept(t, fresh(t, api.Config{TTL: 5, Negative: 5, Entries: 2, Flight: 1, Batch: 1}), 0, a, failure(api.FailBusy, 0, 0))
}

// plain is a memo as the chapter tells it, by searching a list, and with numbers that have no bound.
type plain struct {
	config api.Config
	now    int64
	list   []api.Kept // the one that was used the longest time ago first
}

// at is where a key's entry stands, -1 if there is none.
func (p *plain) at(k api.Key) int {
	return slices.IndexFunc(p.list, func(e api.Kept) bool { return e.Key == k })
}

// takes is whether a tick is taken, and the error if it is not.
func (p *plain) takes(now int64) api.Errno {
	if now < 0 || now > maxTime {
		return api.ErrTick
	}
	if now < p.now {
		return api.ErrBack
	}
	return api.OK
}

// below is whether a number is below the sum of some times.
func below(n int64, times ...int64) bool {
	sum := new(big.Int)
	for _, d := range times {
		sum.Add(sum, big.NewInt(d))
	}
	return big.NewInt(n).Cmp(sum) < 0
}

// see is how an entry is at a tick.
func (p *plain) see(now int64, e api.Kept) api.Seen {
	age := now - e.At
	isValue := e.Outcome.Fail == api.Fail{}
	switch {
	case isValue && below(age, p.config.TTL), !isValue && below(age, p.config.Negative):
		return seen(api.SeenFresh, age, e.Outcome)
	case isValue && below(age, p.config.TTL, p.config.Stale):
		return seen(api.SeenStale, age, e.Outcome)
	}
	return seen(api.SeenOld, age, e.Outcome)
}

// ask is Look, or Tell.
func (p *plain) ask(now int64, k api.Key, tells bool) (api.Seen, api.Errno) {
	if err := p.takes(now); err != api.OK {
		return api.Seen{}, err
	}
	if len(k.Name) > 64 {
		return api.Seen{}, api.ErrKey
	}
	p.now = now
	at := p.at(k)
	if at < 0 {
		return api.Seen{}, api.OK
	}
	entry := p.list[at]
	is := p.see(now, entry)
	if tells && is.How != api.SeenOld {
		p.list = append(slices.Delete(p.list, at, at+1), entry)
	}
	return is, api.OK
}

// keep is Keep.
func (p *plain) keep(now int64, k api.Key, o api.Outcome) (bool, []api.Key, api.Errno) {
	if err := p.takes(now); err != api.OK {
		return false, nil, err
	}
	if len(k.Name) > 64 {
		return false, nil, api.ErrKey
	}
	if slices.Contains(noOutcomes, o) {
		return false, nil, api.ErrFail
	}
	p.now = now
	isKept := p.config.TTL > 0
	if o.Fail != (api.Fail{}) {
		isKept = p.config.Negative > 0 && (o.Fail.Kind == api.FailLoad || o.Fail.Kind == api.FailPanic)
	}
	if !isKept || p.config.Entries == 0 {
		return false, nil, api.OK
	}
	p.drop(k)
	p.list = append(p.list, api.Kept{Key: k, Outcome: o, At: now})
	var gone []api.Key
	for len(p.list) > p.config.Entries {
		gone = append(gone, p.list[0].Key)
		p.list = p.list[1:]
	}
	return true, gone, api.OK
}

// drop is Drop.
func (p *plain) drop(k api.Key) bool {
	at := p.at(k)
	if at >= 0 {
		p.list = slices.Delete(p.list, at, at+1)
	}
	return at >= 0
}

// sweep is Sweep.
func (p *plain) sweep(now int64) ([]api.Key, api.Errno) {
	if err := p.takes(now); err != api.OK {
		return nil, err
	}
	p.now = now
	var gone []api.Key
	p.list = slices.DeleteFunc(p.list, func(e api.Kept) bool {
		old := p.see(now, e).How == api.SeenOld
		if old {
			gone = append(gone, e.Key)
		}
		return old
	})
	return gone, api.OK
}

// copy is a plain memo of its own that is the same.
func (p *plain) copy() *plain { return &plain{p.config, p.now, slices.Clone(p.list)} }

// someTime is a time by lot: small ones, and such as lie at the edges of numbers.
func someTime(lot *rand.Rand) int64 {
	edges := []int64{maxTime / 2, maxTime - 3, maxTime, maxTime + 1, most - 1, most}
	if lot.Intn(4) == 0 {
		return edges[lot.Intn(len(edges))]
	}
	return lot.Int63n(6)
}

// someTick is a number by lot that is a tick behind the time mostly.
func someTick(lot *rand.Rand, time int64) int64 {
	switch lot.Intn(30) {
	case 0:
		return noTicks[lot.Intn(len(noTicks))]
	case 1:
		return time - 1 - lot.Int63n(3)
	case 2:
		return min(time, maxTime/2) + maxTime/2 - lot.Int63n(4)
	}
	return time + lot.Int63n(3)
}

// step does one thing by lot to a memo and to a plain one, and holds the answers against each other.
func step(t *testing.T, lot *rand.Rand, m *memo.Memo, p *plain) {
	t.Helper()
	names := []string{"a", "b", "c", "d", "e", "", long(64), long(65)}
	k := api.Key{Space: uint16(lot.Intn(2)), Name: names[lot.Intn(len(names))]}
	o := value(lot.Int63n(9) - 4)
	switch lot.Intn(6) {
	case 0, 1:
		o = kinds[lot.Intn(len(kinds))]
	case 2:
		o = noOutcomes[lot.Intn(len(noOutcomes))]
	}
	now := someTick(lot, p.now)
	switch lot.Intn(12) {
	case 0, 1:
		got, err := m.Look(now, k)
		if want, wantErr := p.ask(now, k, false); got != want || err != wantErr {
			t.Fatalf("Look(%d, %v): %+v, %d, not %+v, %d", now, k, got, err, want, wantErr)
		}
	case 2, 3, 4:
		got, err := m.Tell(now, k)
		if want, wantErr := p.ask(now, k, true); got != want || err != wantErr {
			t.Fatalf("Tell(%d, %v): %+v, %d, not %+v, %d", now, k, got, err, want, wantErr)
		}
	case 5:
		if got, want := m.Drop(k), p.drop(k); got != want {
			t.Fatalf("Drop(%v): %t", k, got)
		}
	case 6:
		gone, err := m.Sweep(now)
		if want, wantErr := p.sweep(now); !slices.Equal(gone, want) || err != wantErr {
			t.Fatalf("Sweep(%d): %v, %d, not %v, %d", now, gone, err, want, wantErr)
		}
	default:
		ok, gone, err := m.Keep(now, k, o)
		if want, wantGone, wantErr := p.keep(now, k, o); ok != want || !slices.Equal(gone, wantGone) || err != wantErr {
			t.Fatalf("Keep(%d, %v, %v): %t, %v, %d, not %t, %v, %d", now, k, o, ok, gone, err, want, wantGone, wantErr)
		}
	}
}

// TestByLot: a memo is as the chapter tells it at every step, and so is a clone from any step on, and one that Of makes (10.1 to 10.4).
func TestByLot(t *testing.T) {
	lot := rand.New(rand.NewSource(10))
	for range 400 {
		c := api.Config{TTL: someTime(lot), Negative: someTime(lot), Stale: someTime(lot), Entries: lot.Intn(7), Flight: 1, Batch: 1}
		m, p := fresh(t, c), &plain{config: c}
		for range 120 {
			clone, before := m.Clone(), p.copy()
			step(t, lot, m, p)
			same(t, m, c, p.now, p.list...)
			same(t, clone, c, before.now, before.list...)
			switch lot.Intn(12) {
			case 0:
				m = m.Clone()
			case 1:
				m = of(t, c, m.Now(), m.All()...)
			case 2:
				m, p = clone, before
			}
		}
	}
}

// TestNeverTooMany: there are never more than Entries (10.6, T5).
func TestNeverTooMany(t *testing.T) {
	lot := rand.New(rand.NewSource(105))
	for entries := range 9 {
		c := api.Config{TTL: 3, Negative: 2, Stale: 2, Entries: entries, Flight: 1, Batch: 1}
		m := fresh(t, c)
		full := false
		for range 2000 {
			k := api.Key{Space: uint16(lot.Intn(4)), Name: string(rune('a' + lot.Intn(4)))}
			m.Keep(m.Now()+lot.Int63n(2), k, kinds[lot.Intn(len(kinds))])
			if lot.Intn(4) == 0 {
				m.Tell(m.Now(), k)
			}
			if m.Len() > entries || len(m.All()) > entries {
				t.Fatalf("of %d there are %d, %d", entries, m.Len(), len(m.All()))
			}
			full = full || m.Len() == entries
		}
		if !full {
			t.Errorf("of %d there were never so many", entries)
		}
	}
}

// TestFreshUntilItsTime: while at most Entries keys were kept, a value that was kept at b, and not dropped, is fresh below b and TTL (10.6, T6).
func TestFreshUntilItsTime(t *testing.T) {
	lot := rand.New(rand.NewSource(106))
	fresh := 0
	for range 300 {
		c := api.Config{TTL: 1 + someTime(lot)/2, Negative: lot.Int63n(4), Stale: someTime(lot), Entries: 4, Flight: 1, Batch: 1}
		m := of(t, c, 0)
		values := map[api.Key]api.Kept{} // what was kept as a value, and not dropped
		for range 100 {
			k := keys("abcd")[lot.Intn(4)]
			now := min(m.Now()+lot.Int63n(3), maxTime)
			if lot.Intn(40) == 0 {
				now = max(now, maxTime/2)
			}
			switch lot.Intn(8) {
			case 0:
				m.Sweep(now)
			case 1:
				m.Drop(k)
				delete(values, k)
			case 2, 3:
				m.Tell(now, k)
			case 4:
				o := kinds[lot.Intn(len(kinds))]
				if ok, _, _ := m.Keep(now, k, o); ok {
					delete(values, k)
					if o.Fail == (api.Fail{}) {
						values[k] = api.Kept{Key: k, Outcome: o, At: now}
					}
				}
			case 5:
				keep(t, m, now, k, value(now))
				values[k] = api.Kept{Key: k, Outcome: value(now), At: now}
			}
			for k, entry := range values {
				age := m.Now() - entry.At
				is := below(age, c.TTL)
				if is {
					sees(t, m, m.Now(), k, seen(api.SeenFresh, age, entry.Outcome))
					fresh++
				}
				// The last tick at which it is fresh, and the first at which it is not.
				if is && c.TTL <= maxTime && entry.At <= maxTime-c.TTL {
					sees(t, m, entry.At+c.TTL-1, k, seen(api.SeenFresh, c.TTL-1, entry.Outcome))
					got, err := m.Clone().Look(entry.At+c.TTL, k)
					if got.How == api.SeenFresh || got.How == api.SeenNone || err != api.OK {
						t.Fatalf("at its time: %+v, %d", got, err)
					}
				}
			}
		}
	}
	if fresh < 1000 {
		t.Errorf("only %d were fresh", fresh)
	}
}

// TestOldStaysOld: what is old, or gone, is never fresh or stale again until it is kept anew; nor is what is stale ever fresh (10.6).
func TestOldStaysOld(t *testing.T) {
	lot := rand.New(rand.NewSource(107))
	const gone = api.SeenOld + 1
	old := 0
	for range 200 {
		c := api.Config{TTL: lot.Int63n(5), Negative: lot.Int63n(5), Stale: lot.Int63n(5), Entries: 3, Flight: 1, Batch: 1}
		m := fresh(t, c)
		was := map[api.Key]int{} // how each was last; it only grows, until it is kept anew
		for _, k := range keys("abcde") {
			was[k] = gone
		}
		for range 150 {
			k := keys("abcde")[lot.Intn(5)]
			now := m.Now() + lot.Int63n(3) - lot.Int63n(2)
			switch lot.Intn(6) {
			case 0:
				m.Tell(now, k)
			case 1:
				m.Look(now, k)
			case 2:
				m.Sweep(now)
			case 3:
				if ok, _, _ := m.Keep(now, k, kinds[lot.Intn(len(kinds))]); ok {
					was[k] = api.SeenFresh
				}
			case 4:
				m = m.Clone()
			case 5:
				m = of(t, c, m.Now(), m.All()...)
			}
			for _, k := range keys("abcde") {
				got, err := m.Look(m.Now(), k)
				how := got.How
				if how == api.SeenNone {
					how = gone
				}
				if how < was[k] || err != api.OK {
					t.Fatalf("%v was %d, and is %+v, %d", k, was[k], got, err)
				}
				was[k] = how
				if how == api.SeenOld {
					old++
				}
			}
		}
	}
	if old < 1000 {
		t.Errorf("only %d were old", old)
	}
}
