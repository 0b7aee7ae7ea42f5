package tally

import (
	"cmp"
	"slices"

	"convoy/api"
	"convoy/key"
	"convoy/tick"
)

// Keys counts, for each key that somebody asked for, in order, what became of it (26.3).
func Keys(l []api.Event) []api.KeyTally {
	seen := map[api.Key]api.KeyTally{}
	for _, e := range l {
		seen[e.Key] = withEvent(seen[e.Key], e)
	}
	var asked []api.KeyTally
	for k, t := range seen {
		if t.Joins > 0 {
			t.Key = k
			asked = append(asked, t)
		}
	}
	slices.SortFunc(asked, func(a, b api.KeyTally) int { return key.Compare(a.Key, b.Key) })
	return asked
}

// withEvent is the counts of a key with one more event of it.
func withEvent(t api.KeyTally, e api.Event) api.KeyTally {
	switch e.Kind {
	case api.EventJoin:
		t.Joins++
		switch e.How {
		case api.HowHit:
			t.Hits++
		case api.HowStale:
			t.Stales++
		}
	case api.EventBegin:
		t.Begins++
	case api.EventEnd:
		if e.Outcome.Fail.Kind != api.FailNone {
			t.Fails++
		}
	}
	return t
}

// Loads is how many runs each load has: Sends that stand behind one another, of one tick and of rising runs, are of one load (26.3).
func Loads(l []api.Event) []int {
	var sizes []int
	for n, e := range l {
		switch {
		case e.Kind != api.EventSend:
		case n > 0 && isSameLoad(l[n-1], e):
			sizes[len(sizes)-1]++
		default:
			sizes = append(sizes, 1)
		}
	}
	return sizes
}

// isSameLoad tells whether a Send goes on with the load of the event ahead of it.
func isSameLoad(ahead, e api.Event) bool {
	return ahead.Kind == api.EventSend && ahead.At == e.At && ahead.Run < e.Run
}

// Stretches counts, for each stretch of 2^bits ticks in which there are any, rising, Joins, Begins and Ends (26.3).
func Stretches(l []api.Event, bits int) ([]api.Stretch, api.Errno) {
	// No event may be there by which wrong bits would come to light.
	if _, err := tick.Down(0, bits); err != api.OK {
		return nil, err
	}
	seen := map[int64]api.Stretch{}
	for _, e := range l {
		from, err := tick.Down(e.At, bits)
		if err != api.OK {
			continue
		}
		if s, is := withinStretch(seen[from], e); is {
			seen[from] = s
		}
	}
	var rising []api.Stretch
	for from, s := range seen {
		s.From = from
		rising = append(rising, s)
	}
	slices.SortFunc(rising, func(a, b api.Stretch) int { return cmp.Compare(a.From, b.From) })
	return rising, api.OK
}

// withinStretch is the counts of a stretch with one more event, if it is of a kind that is counted.
func withinStretch(s api.Stretch, e api.Event) (api.Stretch, bool) {
	switch e.Kind {
	case api.EventJoin:
		s.Joins++
	case api.EventBegin:
		s.Begins++
	case api.EventEnd:
		s.Ends++
	default:
		return s, false
	}
	return s, true
}

// Shared is how many were told, and of how many runs (26.3).
func Shared(l []api.Event) (int, int) {
	told, runs := 0, set[int]{}
	for _, e := range l {
		if e.Kind == api.EventTell {
			told++
			runs.add(e.Run)
		}
	}
	return told, len(runs)
}
