package audit_test

import (
	"runtime"
	"slices"
	"strings"
	"testing"

	"convoy/api"
	"convoy/audit"
)

// TestHandedIn: events stay as they were, and so does what lies in the spare room behind them (R4).
func TestHandedIn(t *testing.T) {
	room := slices.Concat(events(t, sample), breaking(t), events(t, sample))
	was := slices.Clone(room)
	for n := range len(room) + 1 {
		for which, x := range calls(usual) {
			x(room[:n])
			if !slices.Equal(room, was) {
				t.Fatalf("%s of %d events has changed some", callNames[which], n)
			}
		}
		audit.All(room[:n], usual)
		if !slices.Equal(room, was) {
			t.Fatalf("All of %d events has changed some", n)
		}
	}
}

// TestSpareRoom: what lies behind the end of a list is none of its events (R4, R5).
func TestSpareRoom(t *testing.T) {
	l := events(t, sample)
	for _, behind := range append(breaking(t), api.Event{Kind: api.EventDrop, Key: api.Key{Name: "a"}}) {
		for n := range l {
			room := append(slices.Clone(l[:n]), behind)[:n]
			for which, x := range calls(usual) {
				want := -1
				if which == 5 && n == 20 {
					// The Keep is the last one, be there a Drop in the spare room.
					want = 19
				}
				answers(t, callNames[which], x, room, want)
			}
		}
	}
}

// TestApart: what one call is handed is nothing to the next one (R5).
func TestApart(t *testing.T) {
	l := events(t, sample)
	for which, x := range calls(usual) {
		for _, wrong := range breaking(t) {
			x(append(slices.Clone(l), wrong))
			x([]api.Event{wrong, wrong})
			answers(t, callNames[which], x, l, -1)
		}
	}
}

// TestNothingIsKept: behind a call there is no more than ahead of it (rule 8 of the language).
func TestNothingIsKept(t *testing.T) {
	var before, after runtime.MemStats
	runtime.GC()
	runtime.ReadMemStats(&before)
	for round := range 50 {
		var l []api.Event
		for n := range 500 {
			k := api.Key{Space: uint16(round), Name: strings.Repeat("n", 60+n%5)}
			l = append(l, api.Event{Kind: api.EventBegin, Run: n, Key: k, Generation: n}, api.Event{Kind: api.EventJoin, How: api.HowLed, Caller: n, Run: n, Key: k}, api.Event{Kind: api.EventKeep, Key: k}, api.Event{Kind: api.EventForget, Generation: n})
		}
		for _, x := range calls(api.Config{Flight: 5000, Entries: 5000}) {
			x(l)
		}
	}
	runtime.GC()
	runtime.ReadMemStats(&after)
	if grown := int64(after.HeapAlloc) - int64(before.HeapAlloc); grown > 400000 {
		t.Errorf("%d bytes are kept", grown)
	}
}

// many is events of so many runs, each of which one caller leads and others join, at most a few of them in progress at one time.
func many(runs int) []api.Event {
	const joins = 4
	var l []api.Event
	at := func(run int) int64 { return int64(run) * 3 }
	for run := 1; run <= runs; run++ {
		k := api.Key{Space: uint16(run), Name: strings.Repeat("k", run%60)}
		l = append(l, api.Event{At: at(run), Kind: api.EventBegin, Run: run, Key: k})
		for n := range joins {
			how := api.HowJoined
			if n == 0 {
				how = api.HowLed
			}
			l = append(l, api.Event{At: at(run), Kind: api.EventJoin, Client: 1 + n, Caller: run*joins + n, Run: run, How: how, Key: k})
		}
		l = append(l, api.Event{At: at(run), Kind: api.EventSend, Run: run}, api.Event{At: at(run) + 2, Kind: api.EventEnd, Run: run, Key: k, Outcome: api.Outcome{Value: 7}})
		for n := range joins {
			l = append(l, api.Event{At: at(run) + 2, Kind: api.EventTell, Client: 1 + n, Caller: run*joins + n, Run: run, Key: k, Outcome: api.Outcome{Value: 7}})
		}
		l = append(l, api.Event{At: at(run) + 2, Kind: api.EventKeep, Run: run, Key: k, Outcome: api.Outcome{Value: 7}})
	}
	return l
}

// TestMany: the greatest number of events of a trace is gone over, to the last one (25.1 to 25.5).
func TestMany(t *testing.T) {
	l := many(api.MaxEvents / 12)
	c := api.Config{TTL: 5, Entries: 65536, Flight: 1, Batch: 1}
	whole(t, "many", l[:12*60000], c)
	if which, at, is := audit.All(l, c); which != 5 || !is || l[at].Kind != api.EventKeep {
		t.Errorf("%d, %d, %t", which, at, is)
	}
	c.Entries = 1 << 20
	whole(t, "many", l, c)
	for which, wrong := range breaking(t) {
		if callNames[which] == "Keeping" {
			wrong = api.Event{At: l[len(l)-1].At + 4, Kind: api.EventBegin, Key: l[len(l)-1].Key}
		}
		answers(t, callNames[which], calls(c)[which], append(l[:len(l):len(l)], wrong), len(l))
	}
}
