package world_test

import (
	"fmt"
	"slices"
	"strings"
	"testing"

	"convoy/api"
	"convoy/client"
	"convoy/key"
	"convoy/recipe"
	"convoy/world"
)

// last is the greatest tick.
const last = 1 << 62

func named(name string) api.Key { return api.Key{Name: name} }

var a, b, c = named("a"), named("b"), named("c")

// plainly is a configuration by which nothing is kept, and each run is a load of its own.
var plainly = api.Config{Flight: 16, Batch: 1}

// keeping is one by which outcomes are kept, and told a while longer.
var keeping = api.Config{TTL: 5, Negative: 3, Stale: 4, Entries: 2, Flight: 3, Batch: 1}

// with is a configuration that is changed.
func with(c api.Config, change func(c *api.Config)) api.Config {
	change(&c)
	return c
}

// program is the things to do of a text, which stand with "; " between them.
func program(t testing.TB, text string) []api.Do {
	t.Helper()
	if text == "" {
		return nil
	}
	l, at, err := client.Parse(strings.ReplaceAll(text, "; ", "\n") + "\n")
	if err != api.OK {
		t.Fatalf("%q: no program at %d: %d", text, at, err)
	}
	return l
}

// recipes is a recipe for each text: a key, and steps behind a space.
func recipes(t testing.TB, texts ...string) []api.Recipe {
	t.Helper()
	var all []api.Recipe
	for _, text := range texts {
		name, steps, _ := strings.Cut(text, " ")
		k, _, wrong := key.Parse(name)
		l, at, err := recipe.Parse(steps)
		if err != api.OK || wrong != api.OK {
			t.Fatalf("%q: no recipe at %d: %d, %d", text, at, err, wrong)
		}
		all = append(all, api.Recipe{Key: k, Steps: l})
	}
	return all
}

// script is a script by turn; the recipes stand with "; " between them.
func script(t testing.TB, config api.Config, cooks string, programs ...string) api.Script {
	t.Helper()
	s := api.Script{Config: config}
	if cooks != "" {
		s.Recipes = recipes(t, strings.Split(cooks, "; ")...)
	}
	for _, text := range programs {
		s.Clients = append(s.Clients, program(t, text))
	}
	return s
}

// open makes a world of a script that may be.
func open(t testing.TB, s api.Script) *world.World {
	t.Helper()
	w, at, err := world.New(s)
	if w == nil || at != 0 || err != api.OK {
		t.Fatalf("New: %v, %d, %d", w != nil, at, err)
	}
	return w
}

// play makes a world of a script by turn at its beginning.
func play(t testing.TB, config api.Config, cooks string, programs ...string) *world.World {
	t.Helper()
	return open(t, script(t, config, cooks, programs...))
}

// turns lets a world go on for just so many turns.
func turns(t testing.TB, w *world.World, n int) {
	t.Helper()
	if done := w.Go(n); done != n {
		t.Fatalf("there were %d turns, not %d", done, n)
	}
}

// finish lets a world go on until it is quiet, and looks at how many turns that took.
func finish(t testing.TB, w *world.World, n int) {
	t.Helper()
	if done := w.Go(1 << 40); done != n || !w.Quiet() {
		t.Fatalf("there were %d turns, not %d; quiet: %t", done, n, w.Quiet())
	}
}

// kinds are the names of events.
var kinds = []string{"no event", "join", "begin", "send", "tell", "end", "cancel", "abandon", "forget", "keep", "drop", "leave"}

// hows are the names of how a caller met what it asked for.
var hows = []string{"none", "hit", "stale", "joined", "busy", "led", "cancel"}

// outcome is an outcome as a text: the value or the failure, or, of one that may not be, both.
func outcome(o api.Outcome) string {
	f := fmt.Sprintf("f%d:%d:%d", o.Fail.Kind, o.Fail.Code, o.Fail.Run)
	switch {
	case o.Fail == api.Fail{}:
		return fmt.Sprintf("v%d", o.Value)
	case o.Value == 0:
		return f
	}
	return fmt.Sprintf("v%d %s", o.Value, f)
}

// line is an event as a text in which all that is not zero stands.
func line(e api.Event) string {
	s := fmt.Sprintf("%d %s", e.At, kinds[e.Kind])
	for _, part := range []struct {
		word   string
		number int
	}{{"c", e.Client}, {"n", e.Caller}, {"r", e.Run}, {"g", e.Generation}, {"h", e.How}} {
		if part.number != 0 {
			s += fmt.Sprintf(" %s%d", part.word, part.number)
		}
	}
	if e.Outcome != (api.Outcome{}) {
		s += " " + outcome(e.Outcome)
	}
	if e.Key != (api.Key{}) {
		text, _ := key.Text(e.Key)
		s += " " + strings.TrimPrefix(text, "0:")
	}
	return s
}

func lines(l []api.Event) []string {
	var all []string
	for _, e := range l {
		all = append(all, line(e))
	}
	return all
}

// got is what a client had as a text: place, how, outcome, tick.
func got(g api.Got) string {
	return fmt.Sprintf("%d %s %s @%d", g.Place, hows[g.How], outcome(g.Outcome), g.At)
}

func had(w *world.World, n int) []string {
	var all []string
	for _, g := range w.Log(n) {
		all = append(all, got(g))
	}
	return all
}

// waits are the names of what loads wait for.
var waits = []string{"goes", "gate", "sleeps"}

// standing is a load as a text: its task, its runs, and how it stands.
func standing(l api.Standing) string {
	how := waits[l.Wait]
	if l.Ended {
		how += " ended"
	}
	return fmt.Sprintf("%d %v %s", l.Task, l.Runs, strings.TrimPrefix(how, "goes "))
}

func stand(w *world.World) []string {
	var all []string
	for _, l := range w.Loads() {
		all = append(all, standing(l))
	}
	return all
}

func armed(w *world.World) []string {
	var all []string
	for _, r := range w.Armed() {
		all = append(all, fmt.Sprintf("%d@%d", r.Timer, r.At))
	}
	return all
}

// texts looks that some lines are those that should be.
func texts(t testing.TB, what string, got, want []string) {
	t.Helper()
	if !slices.Equal(got, want) {
		t.Fatalf("%s:\n%s\nnot\n%s", what, strings.Join(got, "\n"), strings.Join(want, "\n"))
	}
}

// happened looks at all events.
func happened(t testing.TB, w *world.World, want ...string) {
	t.Helper()
	texts(t, "Events", lines(w.Events()), want)
}

// since looks at the events behind so many.
func since(t testing.TB, w *world.World, n int, want ...string) {
	t.Helper()
	texts(t, "Events", lines(w.Events())[n:], want)
}

// log looks at all that a client had.
func log(t testing.TB, w *world.World, n int, want ...string) {
	t.Helper()
	texts(t, fmt.Sprintf("Log(%d)", n), had(w, n), want)
}

// awake looks at who is ready.
func awake(t testing.TB, w *world.World, want ...int) {
	t.Helper()
	if got := w.Ready(); !slices.Equal(got, want) {
		t.Fatalf("Ready: %v, not %v", got, want)
	}
}

// timers looks at the timers that are armed.
func timers(t testing.TB, w *world.World, want ...string) {
	t.Helper()
	texts(t, "Armed", armed(w), want)
}

// loads looks at how the loads stand.
func loads(t testing.TB, w *world.World, want ...string) {
	t.Helper()
	texts(t, "Loads", stand(w), want)
}

// waiting looks that a client waits for a caller.
func waiting(t testing.TB, w *world.World, n, caller int) {
	t.Helper()
	if got, ok := w.Waits(n); got != caller || !ok || w.Ended(n) {
		t.Fatalf("Waits(%d): %d, %t, not %d; Ended: %t", n, got, ok, caller, w.Ended(n))
	}
}

// free looks that a client does not wait, and whether it is at its end.
func free(t testing.TB, w *world.World, n int, ended bool) {
	t.Helper()
	if got, ok := w.Waits(n); got != 0 || ok || w.Ended(n) != ended {
		t.Fatalf("Waits(%d): %d, %t; Ended: %t, not %t", n, got, ok, w.Ended(n), ended)
	}
}
