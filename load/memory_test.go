package load_test

import (
	"fmt"
	"slices"
	"strings"
	"testing"

	"convoy/api"
	"convoy/load"
)

// roomy answers items with spare room behind the list's end and behind each recipe's, and things that lie there.
func roomy(items ...api.Item) []api.Item {
	all := append(slices.Clone(items), item(90, "panic 1"), item(91, "panic 2"))
	for i := range all {
		l := append(slices.Clone(all[i].Recipe), api.Step{Op: api.StepPanic, A: 3}, api.Step{Op: 99})
		all[i].Recipe = l[:len(l)-2]
	}
	return all[:len(items)]
}

// whole is a list of items with what lies in its spare room, and in that of their recipes, as a text.
func whole(items []api.Item) string {
	var text strings.Builder
	for _, i := range items[:cap(items)] {
		fmt.Fprint(&text, i, i.Recipe[:cap(i.Recipe)], ";")
	}
	return text.String()
}

// ruin overwrites items and their recipes, and what lies in the room behind their ends.
func ruin(items []api.Item) {
	items = items[:cap(items)]
	for i := range items {
		l := items[i].Recipe[:cap(items[i].Recipe)]
		for j := range l {
			l[j] = api.Step{Op: api.StepPanic, A: 99}
		}
		items[i] = api.Item{Run: 99, Token: 2, Key: api.Key{Name: "ruined"}}
	}
}

// some is items with which all that a load can do is done.
func some() []api.Item {
	return roomy(held(3, 1, "add 1 gate 4 key run"), held(4, 3, "sleep 5 heed add 6"), held(8, 2, "add 1"), held(9, 1, "run key fail 7"))
}

// TestItemsStay: what is handed in is not changed, spare room too, neither by New nor by what is done later (R4).
func TestItemsStay(t *testing.T) {
	a, items := fresh(), some()
	a.t.Cancel(2)
	was := whole(items)
	l := of(t, 1, items...)
	playOut(t, l, a)
	for _, f := range faults() {
		wrong := roomy(row(3)...)
		f.do(&wrong[2])
		unlike := whole(wrong)
		refuse(t, 2, f.want, 1, wrong...)
		if got := whole(wrong); got != unlike {
			t.Fatalf("New changed %s to %s", unlike, got)
		}
	}
	if got := whole(items); got != was {
		t.Fatalf("what was handed in changed from %s to %s", was, got)
	}
}

// TestItemsAreNotKept: items and recipes that the caller changes behind New change nothing, at whatever step that is done (R4).
func TestItemsAreNotKept(t *testing.T) {
	a := fresh()
	a.t.Cancel(2)
	want := playOut(t, of(t, 1, some()...), a.clone())
	for ahead := range len(want)/2 + 1 {
		items, beside := some(), a.clone()
		l := of(t, 1, items...)
		for range ahead {
			l.Wake()
			beside.g.Leave(1)
			l.Step(beside.g, beside.c, beside.t)
		}
		twin, rest := l.Clone(), want[2*ahead:]
		ruin(items)
		if got := playOut(t, l, beside.clone()); !slices.Equal(got, rest) {
			t.Fatalf("behind a change of the items it goes on by %v, not by %v", got, rest)
		}
		if got := playOut(t, twin, beside); !slices.Equal(got, rest) {
			t.Fatalf("behind a change of the items the clone goes on by %v, not by %v", got, rest)
		}
	}
}

// TestAnswersAreNewMemory: what Runs and Results tell shares nothing with what is kept, nor with another answer (R4).
func TestAnswersAreNewMemory(t *testing.T) {
	spoil := func(l *load.Load) {
		runs, results := l.Runs(), l.Results()
		for i := range runs[:cap(runs)] {
			runs[:cap(runs)][i] = 99
		}
		for i := range results[:cap(results)] {
			results[:cap(results)][i] = value(99, 99)
		}
	}
	for n := 1; n < 12; n++ {
		a, l := fresh(), of(t, 1, row(n)...)
		twin := l.Clone()
		for {
			was, runs, results := told(l), l.Runs(), l.Results()
			before := fmt.Sprint(runs, results)
			spoil(l)
			spoil(twin)
			if got := told(l); got != was {
				t.Fatalf("spoilt with an answer: %s, not %s", got, was)
			}
			if got := fmt.Sprint(runs, results); got != before {
				t.Fatalf("spoilt with another answer: %s, not %s", got, before)
			}
			if l.Over() {
				break
			}
			l.Step(a.g, a.c, a.t)
			twin = l.Clone()
			if got := fmt.Sprint(runs, results); got != before {
				t.Fatalf("an answer changed later: %s, not %s", got, before)
			}
		}
		var want []api.Result
		for i := range n {
			want = append(want, value(i+1, int64(i)))
		}
		results(t, l, want...)
		results(t, twin, want...)
	}
}

// TestClone: in each state the clone is the same and goes on the same, and neither of the two sees what is done with the other (14.3).
func TestClone(t *testing.T) {
	kinds := [][]api.Item{some(), row(3), {item(1, "add 1 panic 2")}, {item(1, "gate 3 sleep 2 gate 4"), item(5, "sleep 0"), item(6, "panic 8"), item(7, "")}}
	for _, items := range kinds {
		a := fresh()
		a.t.Cancel(2)
		want := playOut(t, of(t, 6, items...), a.clone())
		for ahead := range len(want)/2 + 1 {
			l, beside := of(t, 6, items...), a.clone()
			for range ahead {
				l.Wake()
				beside.g.Leave(6)
				l.Step(beside.g, beside.c, beside.t)
			}
			twin := l.Clone()
			if twin == nil || twin == l || told(twin) != told(l) {
				t.Fatalf("Clone: %s, not %s", told(twin), told(l))
			}
			stopped := told(l)
			rest := want[2*ahead:]
			if got := playOut(t, l, beside.clone()); !slices.Equal(got, rest) {
				t.Fatalf("with a clone it goes on by %v, not by %v", got, rest)
			}
			if got := told(twin); got != stopped {
				t.Fatalf("the clone saw what was done: %s, not %s", got, stopped)
			}
			ended, third := told(l), twin.Clone()
			if got := playOut(t, twin, beside.clone()); !slices.Equal(got, rest) {
				t.Fatalf("the clone goes on by %v, not by %v", got, rest)
			}
			if got := told(l); got != ended {
				t.Fatalf("what was cloned saw what was done: %s, not %s", got, ended)
			}
			if got := playOut(t, third, beside); !slices.Equal(got, rest) {
				t.Fatalf("the clone's clone goes on by %v, not by %v", got, rest)
			}
		}
	}
}

// TestCloneGoesApart: a load and its clone that end unlike each have their own results (14.3).
func TestCloneGoesApart(t *testing.T) {
	a := fresh()
	l := of(t, 6, item(2, "add 4"), held(5, 3, "gate 1 heed add 2"), held(7, 4, "panic 1"))
	step(t, l, a, api.Loaded{What: api.LoadStep, Run: 2})
	step(t, l, a, api.Loaded{What: api.LoadRun, Run: 2})
	step(t, l, a, api.Loaded{What: api.LoadGate, Run: 5, On: 1})
	twin := l.Clone()
	wake(t, twin, api.OK)
	is(t, l, stand{at: 1, wait: api.WaitGate, on: 1})
	stuck(t, l, a, api.ErrWait)
	a.t.Cancel(3)
	a.t.Cancel(4)
	step(t, twin, a, api.Loaded{What: api.LoadRun, Run: 5})
	step(t, twin, a, api.Loaded{What: api.LoadEnd, Run: 7})
	is(t, l, stand{at: 1, wait: api.WaitGate, on: 1})
	wake(t, l, api.OK)
	live := fresh()
	step(t, l, live, api.Loaded{What: api.LoadStep, Run: 5})
	step(t, l, live, api.Loaded{What: api.LoadStep, Run: 5})
	step(t, l, live, api.Loaded{What: api.LoadRun, Run: 5})
	step(t, l, live, api.Loaded{What: api.LoadEnd, Run: 7})
	results(t, l, failed(2, api.FailPanic, 1, 7), failed(5, api.FailPanic, 1, 7), failed(7, api.FailPanic, 1, 7))
	results(t, twin, value(2, 4), failed(5, api.FailAbort, 0, 5), failed(7, api.FailAbort, 0, 7))
}
