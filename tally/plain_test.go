package tally_test

import (
	"math/big"
	"slices"
	"sort"

	"convoy/api"
)

// plain is events; what is asked of them is counted anew for each thing, event by event.
type plain []api.Event

func (p plain) count(is func(n int, e api.Event) bool) int {
	count := 0
	for n, e := range p {
		if is(n, e) {
			count++
		}
	}
	return count
}

// kind counts the events of a kind of which is holds.
func (p plain) kind(kind int, is func(e api.Event) bool) int {
	return p.count(func(_ int, e api.Event) bool { return e.Kind == kind && is(e) })
}

func anyOf(api.Event) bool { return true }

// back is the last event ahead of a place of which is holds.
func (p plain) back(n int, is func(e api.Event) bool) (api.Event, bool) {
	for n--; n >= 0; n-- {
		if is(p[n]) {
			return p[n], true
		}
	}
	return api.Event{}, false
}

// running is how many runs are in progress behind a place.
func (p plain) running(n int) int {
	var runs []int
	for m := 0; m <= n; m++ {
		e := p[m]
		lastOf, _ := p.back(n+1, func(x api.Event) bool { return x.Run == e.Run && (x.Kind == 2 || x.Kind == 5) })
		if e.Kind == 2 && lastOf.Kind == 2 && !slices.Contains(runs, e.Run) {
			runs = append(runs, e.Run)
		}
	}
	return len(runs)
}

func (p plain) of() api.Tally {
	var t api.Tally
	for kind := 1; kind < 12; kind++ {
		t.Kinds[kind] = p.kind(kind, anyOf)
	}
	t.Kinds[0] = p.count(func(_ int, e api.Event) bool { return e.Kind < 1 || e.Kind > 11 })
	for how := range 7 {
		t.Hows[how] = p.kind(1, func(e api.Event) bool { return e.How == how })
	}
	for kind := range 6 {
		t.Ends[kind] = p.kind(5, func(e api.Event) bool { return e.Outcome.Fail.Kind == kind })
	}
	t.Keys = len(p.keys())
	for n := range p {
		t.Most = max(t.Most, p.running(n))
	}
	return t
}

// times is how long each event of one kind is behind the last one of another kind that goes with it.
func (p plain) times(from, to int, with func(e, x api.Event) bool) [64]int {
	var b [64]int
	for n, e := range p {
		ahead, is := p.back(n, func(x api.Event) bool { return x.Kind == from && with(e, x) })
		if e.Kind == to && is && isTickByHand(e.At) && isTickByHand(ahead.At) && e.At >= ahead.At {
			b[big.NewInt(e.At-ahead.At).BitLen()]++
		}
	}
	return b
}

func isTickByHand(at int64) bool { return at >= 0 && at <= last }

func (p plain) waits() [64]int {
	return p.times(1, 4, func(e, x api.Event) bool { return e.Caller == x.Caller })
}

func (p plain) lengths() [64]int {
	return p.times(2, 5, func(e, x api.Event) bool { return e.Run == x.Run })
}

func (p plain) keys() []api.KeyTally {
	var l []api.KeyTally
	for n, e := range p {
		if _, again := p.back(n, func(x api.Event) bool { return x.Kind == 1 && x.Key == e.Key }); e.Kind != 1 || again {
			continue
		}
		of := func(x api.Event) bool { return x.Key == e.Key }
		l = append(l, api.KeyTally{
			Key:    e.Key,
			Joins:  p.kind(1, of),
			Hits:   p.kind(1, func(x api.Event) bool { return of(x) && x.How == 1 }),
			Stales: p.kind(1, func(x api.Event) bool { return of(x) && x.How == 2 }),
			Begins: p.kind(2, of),
			Fails:  p.kind(5, func(x api.Event) bool { return of(x) && x.Outcome.Fail.Kind != 0 }),
		})
	}
	sort.Slice(l, func(n, m int) bool {
		if l[n].Key.Space != l[m].Key.Space {
			return l[n].Key.Space < l[m].Key.Space
		}
		return l[n].Key.Name < l[m].Key.Name
	})
	return l
}

func (p plain) loads() []int {
	var sizes []int
	for n := 0; n < len(p); {
		m := n + 1
		for m < len(p) && p[n].Kind == 3 && p[m].Kind == 3 && p[m].At == p[n].At && p[m].Run > p[m-1].Run {
			m++
		}
		if p[n].Kind == 3 {
			sizes = append(sizes, m-n)
		}
		n = m
	}
	return sizes
}

func (p plain) stretches(bits int) []api.Stretch {
	size := int64(1) << bits
	var froms []int64
	for _, e := range p {
		if isTickByHand(e.At) && (e.Kind == 1 || e.Kind == 2 || e.Kind == 5) {
			froms = append(froms, e.At/size*size)
		}
	}
	slices.Sort(froms)
	var l []api.Stretch
	for _, from := range slices.Compact(froms) {
		in := func(e api.Event) bool { return e.At >= from && e.At-from < size && e.At <= last }
		l = append(l, api.Stretch{From: from, Joins: p.kind(1, in), Begins: p.kind(2, in), Ends: p.kind(5, in)})
	}
	return l
}

func (p plain) shared() (int, int) {
	unlike := p.count(func(n int, e api.Event) bool {
		_, again := p.back(n, func(x api.Event) bool { return x.Kind == 4 && x.Run == e.Run })
		return e.Kind == 4 && !again
	})
	return p.kind(4, anyOf), unlike
}
