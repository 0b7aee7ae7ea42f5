package trace_test

import (
	"cmp"
	"maps"
	"math/rand"
	"slices"
	"strings"
	"testing"

	"convoy/api"
	"convoy/trace"
)

// saw counts what was met by lot.
type saw map[string]int

// enough looks that each of some things was met often.
func (w saw) enough(t *testing.T, times int, what ...string) {
	t.Helper()
	for _, one := range what {
		if w[one] < times {
			t.Errorf("%s: met %d times", one, w[one])
		}
	}
}

// TestParseOfLine: Parse of Line is the event, by lot; and what may not be has no line (24.1, 24.6).
func TestParseOfLine(t *testing.T) {
	w := saw{}
	for seed := range int64(40000) {
		lot := rand.New(rand.NewSource(seed))
		e, other := someEvent(lot), someEvent(lot)
		switch lot.Intn(12) {
		case 0:
			e.Client = other.Client
		case 1:
			e.Caller = other.Caller
		case 2:
			e.Run = other.Run
		case 3:
			e.Generation = other.Generation
		case 4:
			e.How = other.How
		case 5:
			e.Key = other.Key
		case 6:
			e.Outcome = other.Outcome
		case 7:
			e.Kind = other.Kind
		}
		if !mayBeByHand(e) {
			w["wrong"]++
			may(t, e, false)
			continue
		}
		w["right"]++
		told(t, e, lineByHand(e))
	}
	w.enough(t, 1000, "wrong", "right")
}

// spoilLine changes a line a little, by lot.
func spoilLine(lot *rand.Rand, s string) string {
	at := lot.Intn(len(s) + 1)
	pieces := []string{"", " ", "\n", "\r", "%", "%0a", "%0d", "%25", "%0A", "0", "1", "9", "-", "+", ":", "c", "n", "r", "g", "h", "v", "f", "k", " c1", " n2", " r3", " g4", " h5", " v6", " v-7", " f1:0:1", " f4:0:0", " k0:a", "k", "  ", "\x00", "\xff", "9223372036854775807"}
	behind := min(len(s), at+lot.Intn(3))
	return s[:at] + pieces[lot.Intn(len(pieces))] + s[behind:]
}

// TestParseLikeGrammar holds Parse against a grammar, of lines that are nearly right; what it reads has that line (24.1, 24.6).
func TestParseLikeGrammar(t *testing.T) {
	w := saw{}
	for seed := range int64(100000) {
		lot := rand.New(rand.NewSource(seed))
		s := lineByHand(someEvent(lot))
		if parts := strings.Split(s, " "); lot.Intn(4) == 0 {
			i, j := lot.Intn(len(parts)), lot.Intn(len(parts))
			parts[i], parts[j] = parts[j], parts[i]
			s = strings.Join(parts, " ")
		}
		for range lot.Intn(3) {
			s = spoilLine(lot, s)
		}
		want, is := parsedByHand(s)
		got, err := trace.Parse(s)
		if got != want || (err == api.OK) != is || !is && err != api.ErrLine {
			t.Fatalf("seed %d: Parse(%q): %+v, %d, not %+v, %v", seed, s, got, err, want, is)
		}
		if !is {
			w["wrong"]++
			continue
		}
		w["right"]++
		told(t, got, s)
	}
	w.enough(t, 10000, "wrong", "right")
}

// TestUnlikeLines: unlike events have unlike lines (24.6).
func TestUnlikeLines(t *testing.T) {
	lines := map[string]api.Event{}
	events := map[api.Event]string{}
	for seed := range int64(40000) {
		e := someEvent(rand.New(rand.NewSource(seed)))
		e.At = min(e.At, 2)
		line, err := trace.Line(e)
		if err != api.OK {
			t.Fatal(err)
		}
		if other, known := lines[line]; known && other != e {
			t.Fatalf("%+v and %+v: %q", e, other, line)
		}
		if strings.ContainsAny(line, "\n\r") {
			t.Fatalf("%+v: %q", e, line)
		}
		lines[line], events[e] = e, line
	}
	if len(lines) != len(events) || len(lines) < 1000 {
		t.Errorf("%d lines of %d events", len(lines), len(events))
	}
}

// story is events by lot, whose ticks go on, of a few clients, runs and keys; now and then a tick goes back, or an event may not be.
func story(lot *rand.Rand, n int) []api.Event {
	var l []api.Event
	at := int64(lot.Intn(3))
	for range n {
		e := someEvent(lot)
		e.Client, e.Caller, e.Run, e.Generation = e.Client%4, e.Caller%9, e.Run%6, e.Generation%3
		if lot.Intn(2) == 0 && forms[e.Kind-1].key {
			e.Key = []api.Key{{}, named("a"), named("b"), {Space: 7}}[lot.Intn(4)]
		}
		if lot.Intn(3) == 0 {
			at += int64(lot.Intn(4))
		}
		e.At = at
		switch lot.Intn(20) {
		case 0:
			e.At -= int64(lot.Intn(3))
		case 1:
			e.Kind = lot.Intn(14)
		}
		l = append(l, e)
	}
	return l
}

// places is the places of those events of which is holds.
func places(l []api.Event, is func(e api.Event, f form) bool) []int {
	var at []int
	for n, e := range l {
		if is(e, forms[e.Kind-1]) {
			at = append(at, n)
		}
	}
	return at
}

// TestLikePlain holds a trace against a list of what was added, by lot, and all that is asked of it (24.2, 24.3, 24.4, 24.6).
func TestLikePlain(t *testing.T) {
	w := saw{}
	for seed := range int64(1500) {
		lot := rand.New(rand.NewSource(seed))
		x := trace.New()
		var kept []api.Event
		for _, e := range story(lot, lot.Intn(40)) {
			want := api.OK
			switch {
			case !mayBeByHand(e):
				want = api.ErrEvent
				w["wrong"]++
			case len(kept) > 0 && e.At < kept[len(kept)-1].At:
				want = api.ErrBack
				w["back"]++
			default:
				kept = append(kept, e)
				w["added"]++
			}
			if err := x.Add(e); err != want {
				t.Fatalf("seed %d: Add(%+v): %d, not %d", seed, e, err, want)
			}
		}
		holds(t, x, kept)
		looksLikePlain(t, lot, x, kept)
		text := ""
		for _, e := range kept {
			text += lineByHand(e) + "\n"
		}
		readBack(t, kept, text)
	}
	w.enough(t, 100, "wrong", "back", "added")
}

// looksLikePlain holds all lists of a trace against those of a list of events.
func looksLikePlain(t *testing.T, lot *rand.Rand, x *trace.Trace, l []api.Event) {
	t.Helper()
	var asked []int
	for range lot.Intn(5) {
		asked = append(asked, lot.Intn(15)-1)
	}
	found(t, "OfKind", x.OfKind(asked...), places(l, func(e api.Event, _ form) bool { return slices.Contains(asked, e.Kind) })...)
	runs, named := map[int]bool{}, map[api.Key]bool{}
	for _, e := range l {
		if e.Run != 0 {
			runs[e.Run] = true
		}
		if forms[e.Kind-1].key {
			named[e.Key] = true
		}
	}
	found(t, "Runs", x.Runs(), slices.Sorted(maps.Keys(runs))...)
	inOrder := slices.SortedFunc(maps.Keys(named), func(a, b api.Key) int {
		return cmp.Or(cmp.Compare(a.Space, b.Space), strings.Compare(a.Name, b.Name))
	})
	if !slices.Equal(x.Keys(), inOrder) {
		t.Fatalf("Keys: %v, not %v", x.Keys(), inOrder)
	}
	for run := -1; run < 8; run++ {
		found(t, "OfRun", x.OfRun(run), places(l, func(e api.Event, _ form) bool { return run > 0 && e.Run == run })...)
	}
	for client := -1; client < 6; client++ {
		found(t, "OfClient", x.OfClient(client), places(l, func(e api.Event, _ form) bool { return client > 0 && e.Client == client })...)
	}
	for _, k := range append(inOrder, api.Key{}, api.Key{Space: 9}) {
		found(t, "OfKey", x.OfKey(k), places(l, func(e api.Event, f form) bool { return f.key && e.Key == k })...)
	}
	from, to := int64(lot.Intn(50)-3), int64(lot.Intn(50)-3)
	found(t, "Between", x.Between(from, to), places(l, func(e api.Event, _ form) bool { return e.At >= from && e.At <= to })...)
}

// TestReadLikePlain holds Read against a plain one that goes line by line, of texts that are nearly right (24.4).
func TestReadLikePlain(t *testing.T) {
	w := saw{}
	for seed := range int64(20000) {
		lot := rand.New(rand.NewSource(seed))
		s := ""
		for _, e := range story(lot, lot.Intn(6)) {
			if mayBeByHand(e) {
				s += lineByHand(e) + "\n"
			}
		}
		if lot.Intn(3) == 0 {
			s = spoilLine(lot, s)
		}
		want, wantLine, wrong := readByHand(s)
		got, line, err := trace.Read(s)
		if line != wantLine || err != wrong || (got == nil) != (wrong != api.OK) || !slices.Equal(got.All(), want) {
			t.Fatalf("seed %d: Read(%q): %d, %d, not %d, %d", seed, s, line, err, wantLine, wrong)
		}
		w[map[api.Errno]string{api.OK: "right", api.ErrLine: "no line", api.ErrBack: "back"}[err]]++
		if err == api.OK && got.Text() != s {
			t.Fatalf("seed %d: %q, not %q", seed, got.Text(), s)
		}
	}
	w.enough(t, 300, "right", "no line", "back")
}

// readByHand is the events of a text; else the number of the first line that is none, and its error.
func readByHand(s string) ([]api.Event, int, api.Errno) {
	lines := strings.Split(s, "\n")
	behind := lines[len(lines)-1]
	var l []api.Event
	for n, line := range lines[:len(lines)-1] {
		e, is := parsedByHand(line)
		if !is {
			return nil, n + 1, api.ErrLine
		}
		if n > 0 && e.At < l[n-1].At {
			return nil, n + 1, api.ErrBack
		}
		l = append(l, e)
	}
	if behind != "" {
		return nil, len(lines), api.ErrLine
	}
	return l, 0, api.OK
}

// TestDifferLikePlain holds Differ against a plain one, of traces that are the same up to somewhere (24.4).
func TestDifferLikePlain(t *testing.T) {
	w := saw{}
	for seed := range int64(3000) {
		lot := rand.New(rand.NewSource(seed))
		var a []api.Event
		for _, e := range story(lot, lot.Intn(12)) {
			if e.At = 5; mayBeByHand(e) {
				a = append(a, e)
			}
		}
		b := slices.Clone(a[:lot.Intn(len(a)+1)])
		if len(b) > 0 && lot.Intn(2) == 0 {
			b[lot.Intn(len(b))] = api.Event{At: 5, Kind: 3, Run: 99}
		}
		if lot.Intn(2) == 0 {
			b = append(b, a[len(b):]...)
		}
		at, is := 0, len(a) != len(b)
		for at < min(len(a), len(b)) && a[at] == b[at] {
			at++
		}
		is = is || at < len(a)
		if !is {
			at = 0
			w["same"]++
		} else {
			w["unlike"]++
		}
		x, y := made(t, a...), made(t, b...)
		differs(t, x, y, at, is)
		if (x.Text() != y.Text()) != is || (x.Sum() != y.Sum()) != is {
			t.Fatalf("seed %d: texts", seed)
		}
	}
	w.enough(t, 300, "same", "unlike")
}
