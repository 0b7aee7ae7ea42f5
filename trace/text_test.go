package trace_test

import (
	"slices"
	"strconv"
	"strings"
	"testing"

	"convoy/api"
	"convoy/tick"
	"convoy/trace"
)

// noTrace tells that a text is none, and which line is the first that is none.
func noTrace(t *testing.T, s string, wantLine int, want api.Errno) {
	t.Helper()
	if got, line, err := trace.Read(s); got != nil || line != wantLine || err != want {
		t.Fatalf("Read(%q): %v, %d, %d, not %d, %d", short(s), got, line, err, wantLine, want)
	}
}

// readBack holds a text against events, there and back.
func readBack(t *testing.T, l []api.Event, want string) {
	t.Helper()
	x := made(t, l...)
	if got := x.Text(); got != want {
		t.Fatalf("Text: %q, not %q", short(got), short(want))
	}
	if got := x.Sum(); got != tick.Hash(want, 0) {
		t.Fatalf("Sum: %d", got)
	}
	got, line, err := trace.Read(want)
	if got == nil || line != 0 || err != api.OK || !slices.Equal(got.All(), l) {
		t.Fatalf("Read(%q): %d, %d", short(want), line, err)
	}
	if at, is := trace.Differ(got, x); at != 0 || is {
		t.Fatalf("Differ: %d, %v", at, is)
	}
}

// sends is so many events, one a tick, and their text.
func sends(n int) ([]api.Event, string) {
	var l []api.Event
	var text strings.Builder
	for i := range n {
		l = append(l, api.Event{At: int64(i), Kind: api.EventSend, Run: i + 1})
		text.WriteString(strconv.Itoa(i) + " send r" + strconv.Itoa(i+1) + "\n")
	}
	return l, text.String()
}

// TestText: of nothing, of one and of several events (24.4).
func TestText(t *testing.T) {
	readBack(t, nil, "")
	for _, f := range forms {
		line := lineByHand(filled(f))
		readBack(t, []api.Event{filled(f)}, line+"\n")
		readBack(t, []api.Event{{Kind: f.kind}, filled(f), filled(f)}, "0 "+f.word+"\n"+line+"\n"+line+"\n")
	}
	l, text := sends(1000)
	readBack(t, l, text)
}

// TestSum: the hash of the text with the seed 0, by numbers worked out elsewhere (24.4).
func TestSum(t *testing.T) {
	for _, x := range []*trace.Trace{nil, trace.New()} {
		if got := x.Sum(); got != sumByHand("") {
			t.Errorf("of nothing: %d", got)
		}
	}
	x := made(t, api.Event{At: 2, Kind: api.EventSend, Run: 1})
	if got := x.Sum(); got != sumByHand("2 send r1\n") {
		t.Errorf("of one: %d", got)
	}
	if x.Add(api.Event{At: 2, Kind: api.EventDrop, Key: named("\n")}); x.Sum() != sumByHand("2 send r1\n2 drop k0:%0a\n") {
		t.Errorf("of two: %d", x.Sum())
	}
}

// sumByHand is chapter 1's Hash with the seed 0.
func sumByHand(s string) uint64 {
	h := uint64(14695981039346656037)
	for i := range len(s) {
		h = (h ^ uint64(s[i])) * 1099511628211
	}
	h = (h ^ h>>30) * 0xbf58476d1ce4e5b9
	h = (h ^ h>>27) * 0x94d049bb133111eb
	return h ^ h>>31
}

// TestReadEmpty: the empty text is the trace of nothing; an empty line is none (24.4).
func TestReadEmpty(t *testing.T) {
	x, line, err := trace.Read("")
	if x == nil || line != 0 || err != api.OK || x.Len() != 0 {
		t.Fatalf("%v, %d, %d", x, line, err)
	}
	if err := x.Add(api.Event{Kind: 3}); err != api.OK || x.Len() != 1 {
		t.Fatalf("Add: %d", err)
	}
	for s, at := range map[string]int{"\n": 1, "\n\n": 1, "\n0 send\n": 1, "0 send\n\n": 2, "0 send\n\n0 send\n": 2, "0 send\n0 send\n\n\n": 3} {
		noTrace(t, s, at, api.ErrLine)
	}
}

// TestReadEnds: what is behind the last byte 10 is no line, were it one with that (24.4).
func TestReadEnds(t *testing.T) {
	for s, at := range map[string]int{"0 send": 1, "x": 1, " ": 1, "2 send r1\n2 send": 2, "2 send r1\n1 send": 2, "0 send\n ": 2, "0 send\n\r": 2, "0 send\n0 send\n0 send r1": 3, "x\n0 send": 1, "0 send\nx\n0 send": 2, "0 drop k0:a": 1} {
		noTrace(t, s, at, api.ErrLine)
	}
}

// TestReadWrong: the first line that is none is told, be it the first, one in the midst or the last (24.4).
func TestReadWrong(t *testing.T) {
	const good = "5 send r1\n"
	for _, wrong := range []string{"x", "5 send r01", "", "05 send", "5 send r1 ", "5 send r1\r", "5 Send", "-1 send", "5 drop k0:", "5 drop k0:%0A", "5", "5 send k0:a", "5 begin h7"} {
		for n := range 5 {
			noTrace(t, strings.Repeat(good, n)+wrong+"\n", n+1, api.ErrLine)
			noTrace(t, strings.Repeat(good, n)+wrong+"\n"+strings.Repeat(good, n), n+1, api.ErrLine)
			noTrace(t, strings.Repeat(good, n)+wrong+"\nx\n4 send\n", n+1, api.ErrLine)
			noTrace(t, strings.Repeat(good, n)+wrong+"\n4 send", n+1, api.ErrLine)
		}
	}
}

// TestReadBack: a tick that goes back may not be added; a line that is none is told as that (24.4).
func TestReadBack(t *testing.T) {
	for s, at := range map[string]int{
		"5 send\n4 send\n": 2, "5 send\n5 send\n6 send\n5 send\n": 4, "1 send\n0 send\nx\n": 2, "1 send\n0 send\n0 send": 2, "4611686018427387904 drop\n4611686018427387903 drop\n": 2, "9 send\n10 send\n9 send\n": 3,
	} {
		noTrace(t, s, at, api.ErrBack)
	}
	noTrace(t, "5 send\nx\n4 send\n", 2, api.ErrLine)
	noTrace(t, "5 send\n4 send k0:a\n", 2, api.ErrLine)
	noTrace(t, "5 send\n4 send", 2, api.ErrLine)
	if x, line, err := trace.Read("5 send\n5 send\n6 send\n"); x.Len() != 3 || line != 0 || err != api.OK {
		t.Fatalf("%d, %d, %d", x.Len(), line, err)
	}
}

// TestMost: there are as many events as there may be, and no more (24.2, 24.4).
func TestMost(t *testing.T) {
	x := trace.New()
	for i := range api.MaxEvents {
		if err := x.Add(api.Event{At: int64(i) / 2, Kind: api.EventSend}); err != api.OK {
			t.Fatalf("at %d: %d", i, err)
		}
	}
	text := x.Text()
	for range 2 {
		for e, want := range map[api.Event]api.Errno{
			{At: 1 << 40, Kind: 3}: api.ErrMany, {At: 0, Kind: 3}: api.ErrMany, {At: 0, Kind: 12}: api.ErrEvent, {At: -1, Kind: 3}: api.ErrEvent,
		} {
			if err := x.Add(e); err != want || x.Len() != api.MaxEvents {
				t.Fatalf("Add(%+v): %d", e, err)
			}
		}
	}
	y, line, err := trace.Read(text)
	if y.Len() != api.MaxEvents || line != 0 || err != api.OK {
		t.Fatalf("Read: %d, %d, %d", y.Len(), line, err)
	}
	if at, is := trace.Differ(x, y); at != 0 || is {
		t.Fatalf("Differ: %d, %v", at, is)
	}
	if last, is := y.At(api.MaxEvents - 1); last.At != api.MaxEvents/2-1 || !is {
		t.Fatalf("At: %+v, %v", last, is)
	}
	noTrace(t, text+"1048576 send\n", api.MaxEvents+1, api.ErrMany)
	noTrace(t, text+"0 send\nx\n", api.MaxEvents+1, api.ErrMany)
	noTrace(t, text+"x\n", api.MaxEvents+1, api.ErrLine)
	noTrace(t, text+"\n", api.MaxEvents+1, api.ErrLine)
	noTrace(t, text+"1048576 send", api.MaxEvents+1, api.ErrLine)
}

// differs holds Differ against a place, both ways round.
func differs(t *testing.T, a, b *trace.Trace, wantAt int, want bool) {
	t.Helper()
	if at, is := trace.Differ(a, b); at != wantAt || is != want {
		t.Fatalf("Differ: %d, %v, not %d, %v", at, is, wantAt, want)
	}
	if at, is := trace.Differ(b, a); at != wantAt || is != want {
		t.Fatalf("Differ the other way round: %d, %v, not %d, %v", at, is, wantAt, want)
	}
}

// TestDiffer: of the same, of one that ends ahead of the other, and of nil (24.4).
func TestDiffer(t *testing.T) {
	l, _ := sends(6)
	differs(t, nil, nil, 0, false)
	differs(t, nil, trace.New(), 0, false)
	differs(t, trace.New(), trace.New(), 0, false)
	for n := range l {
		x := made(t, l[:n]...)
		differs(t, x, x, 0, false)
		differs(t, x, made(t, l[:n]...), 0, false)
		differs(t, x, nil, 0, n > 0)
		differs(t, x, trace.New(), 0, n > 0)
		for m := range n {
			differs(t, x, made(t, l[:m]...), m, true)
		}
	}
}

// TestDifferFields: whichever part is unlike, and wherever, the first one being told (24.4).
func TestDifferFields(t *testing.T) {
	e := api.Event{At: 5, Kind: 1, Client: 1, Caller: 1, Run: 1, How: 1, Key: named("a"), Outcome: failed(1, 1, 1)}
	for _, change := range []func(e *api.Event){
		func(e *api.Event) { e.At++ }, func(e *api.Event) { e.Kind, e.How = 4, 0 }, func(e *api.Event) { e.Client++ }, func(e *api.Event) { e.Caller++ }, func(e *api.Event) { e.Run++ }, func(e *api.Event) { e.How++ }, func(e *api.Event) { e.Key.Space++ }, func(e *api.Event) { e.Key.Name += "b" },
		func(e *api.Event) { e.Outcome.Fail.Kind++ }, func(e *api.Event) { e.Outcome.Fail.Code++ }, func(e *api.Event) { e.Outcome.Fail.Run++ }, func(e *api.Event) { e.Outcome = api.Outcome{Value: 1} },
	} {
		other := e
		change(&other)
		differs(t, made(t, e), made(t, other), 0, true)
		differs(t, made(t, e, e, e), made(t, e, other), 1, true)
		differs(t, made(t, e, e, other), made(t, e, other, other), 1, true)
		differs(t, made(t, e, e, e, other), made(t, e, e, e, other), 0, false)
	}
	one, other := api.Event{Kind: 5, Generation: 1}, api.Event{Kind: 5, Generation: 2}
	differs(t, made(t, one, one), made(t, one, other), 1, true)
}
