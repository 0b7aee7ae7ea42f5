package trace_test

import (
	"runtime"
	"slices"
	"strings"
	"testing"

	"convoy/api"
	"convoy/trace"
)

// spoil overwrites a list, and what lies in the room behind its end.
func spoil[T any](l []T, with T) {
	l = l[:cap(l)]
	for i := range l {
		l[i] = with
	}
}

// lists is all lists that a trace hands out.
func lists(x *trace.Trace) [][]int {
	return [][]int{x.OfKind(1, 2, 3, 4, 5), x.OfKind(11), x.OfRun(1), x.OfRun(3), x.OfKey(named("a")), x.OfKey(api.Key{}), x.OfClient(1), x.OfClient(2), x.Between(0, 5), x.Between(0, 100), x.Runs()}
}

// TestHandedOut: an answer shares no memory with what is kept, nor with another answer (R4).
func TestHandedOut(t *testing.T) {
	x := several(t)
	for range 20 {
		text := x.Text()
		all, keys, places := x.All(), x.Keys(), lists(x)
		wantAll, wantKeys := slices.Clone(all), slices.Clone(keys)
		spoil(x.All(), api.Event{At: 99})
		spoil(x.Keys(), named("spoilt"))
		for i, l := range lists(x) {
			want := slices.Clone(places[i])
			spoil(l, -99)
			found(t, "spoilt with another answer", places[i], want...)
		}
		if !slices.Equal(all, wantAll) || !slices.Equal(keys, wantKeys) || x.Text() != text {
			t.Fatal("spoilt with an answer")
		}
		holds(t, x, wantAll)
		if err := x.Add(api.Event{At: 100, Kind: 10, Key: named("a")}); err != api.OK {
			t.Fatal(err)
		}
		if !slices.Equal(all, wantAll) || !slices.Equal(all[:cap(all)][len(all):], make([]api.Event, cap(all)-len(all))) {
			t.Fatal("what is added goes into an answer")
		}
		holds(t, x, append(wantAll, api.Event{At: 100, Kind: 10, Key: named("a")}))
	}
}

// TestHandedIn: a list of kinds stays as it was, its spare room too (R4).
func TestHandedIn(t *testing.T) {
	x := several(t)
	room := []int{5, 3, 3, 1, 11, 0, -1, 12, 2, 2}
	was := slices.Clone(room)
	for n := range room {
		x.OfKind(room[:n]...)
		if !slices.Equal(room, was) {
			t.Fatalf("%v, not %v", room, was)
		}
	}
	asked := []int{5, 3}
	got := x.OfKind(asked...)
	spoil(asked, 1)
	found(t, "spoilt with what was handed in", got, 2, 6, 14)
}

// TestApart: two traces know nothing of one another, be one read of the other's text (R5).
func TestApart(t *testing.T) {
	x := several(t)
	text := x.Text()
	y, _, _ := trace.Read(text)
	z, _, _ := trace.Read(text)
	y.Add(api.Event{At: 50, Kind: 3, Run: 50})
	z.Add(api.Event{At: 60, Kind: 3, Run: 60})
	if x.Text() != text || y.Text() != text+"50 send r50\n" || z.Text() != text+"60 send r60\n" {
		t.Fatalf("%q, %q, %q", x.Text(), y.Text(), z.Text())
	}
	differs(t, x, y, 15, true)
	differs(t, y, z, 15, true)
}

// TestAsking: whoever looks through a trace, changes nothing (R5).
func TestAsking(t *testing.T) {
	x := several(t)
	was := x.All()
	for range 3 {
		lists(x)
		x.Keys()
		x.At(3)
		x.Each(func(n int, e api.Event) bool { e.Run = 99; return n < 5 })
		x.Sum()
		trace.Differ(x, nil)
		x.Add(api.Event{At: 8, Kind: 3})
		x.Add(api.Event{At: 10, Kind: 0})
		holds(t, x, was)
	}
}

// TestNamesAreNoPieces: an event that was read does not hold on to its line, nor a trace to its text (rule 8 of the language).
func TestNamesAreNoPieces(t *testing.T) {
	var events []api.Event
	var traces []*trace.Trace
	var before, after runtime.MemStats
	runtime.GC()
	runtime.ReadMemStats(&before)
	for range 100 {
		text := strings.Repeat("1 join c1 n1 k0:"+strings.Repeat("n", 64)+"\n", 100)
		x, _, err := trace.Read("1 drop k0:a%25b\n1 drop k0:a\n")
		if err != api.OK {
			t.Fatal(err)
		}
		traces = append(traces, x)
		long, _, err := trace.Read(strings.Clone(text))
		if err != api.OK {
			t.Fatal(err)
		}
		e, _ := long.At(0)
		events = append(events, e)
		e, err = trace.Parse(strings.Clone(text[:80]))
		if err != api.OK {
			t.Fatal(err)
		}
		events = append(events, e)
	}
	runtime.GC()
	runtime.ReadMemStats(&after)
	runtime.KeepAlive(events)
	runtime.KeepAlive(traces)
	if grown := int64(after.HeapAlloc) - int64(before.HeapAlloc); grown > 400000 {
		t.Errorf("200 events and 100 traces take %d bytes", grown)
	}
}

// TestNothingMoreIsKept: what is refused takes no room.
func TestNothingMoreIsKept(t *testing.T) {
	x := made(t, api.Event{At: 5, Kind: 3})
	allocated := testing.AllocsPerRun(1000, func() {
		x.Add(api.Event{At: 4, Kind: 3})
		x.Add(api.Event{At: 5, Kind: 12})
	})
	if allocated > 20 || x.Len() != 1 {
		t.Errorf("%v pieces, %d events", allocated, x.Len())
	}
}
