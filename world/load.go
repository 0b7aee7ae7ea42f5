package world

import (
	"convoy/api"
	"convoy/load"
	"convoy/token"
)

// loading is a load that was sent; behind its end it has its runs alone, as nobody asks for more then.
type loading struct {
	*load.Load
	runs []int
	// Each load has tokens of its own, as a world may have more runs than one set of them has room for.
	tokens *token.Tokens
}

// held is where the token of a run is.
type held struct {
	tokens *token.Tokens
	number int
}

// refresh is the How of the beginning of a refresh.
const refresh = 1

func (w *World) loadOf(task int) *loading { return w.loads[task-len(w.clients)] }

// begin makes the token of a run that was begun.
func (w *World) begin(run int) {
	number, _ := w.gathers.Make(0)
	w.runs[run] = held{tokens: w.gathers, number: number}
	r, _ := w.group.Run(run)
	begins := api.Event{Kind: api.EventBegin, Run: run, Key: r.Key, Generation: r.Generation}
	if r.Refresh {
		begins.How = refresh
	}
	w.happens(begins)
}

// watch arms a timer for the load that gathers, unless its timer is armed already.
func (w *World) watch() {
	due, gathers := w.group.Next()
	if _, armed := w.clock.Left(w.due); gathers && !armed {
		w.due, _ = w.clock.Arm(due)
	}
}

// send lets the load of some runs begin; of none nothing.
func (w *World) send(runs []int) {
	if len(runs) == 0 {
		return
	}
	w.clock.Stop(w.due)
	items := make([]api.Item, 0, len(runs))
	for _, run := range runs {
		w.happens(api.Event{Kind: api.EventSend, Run: run})
		r, _ := w.group.Run(run)
		items = append(items, api.Item{Run: run, Key: r.Key, Token: w.runs[run].number, Recipe: w.recipeOf(r.Key)})
	}
	task := len(w.clients) + len(w.loads)
	begins, _, _ := load.New(task, items)
	w.loads = append(w.loads, &loading{Load: begins, runs: runs, tokens: w.gathers})
	w.gathers = token.New()
	w.ready.Wake(task)
}

// recipeOf is the recipe of the run of a key that is sent next: runs are sent in the order in which they are begun.
func (w *World) recipeOf(k api.Key) []api.Step {
	left := w.recipes[k]
	if len(left) == 0 {
		return nil
	}
	if len(left) > 1 {
		w.recipes[k] = left[1:]
	}
	return left[0]
}

// stepLoad lets a load do its next step.
func (w *World) stepLoad(task int) {
	l := w.loadOf(task)
	did, _ := l.Step(w.gates, w.clock, l.tokens)
	switch did.What {
	case api.LoadStep, api.LoadSkip, api.LoadRun:
		w.ready.Wake(task)
	case api.LoadSleep:
		w.sleep(task, did.Timer)
	case api.LoadEnd:
		for _, result := range l.Results() {
			w.end(result)
		}
		l.Load, l.tokens = nil, nil
	}
}

// end ends a run: who waits for it is told.
func (w *World) end(result api.Result) {
	run, o := result.Run, result.Outcome
	delete(w.runs, run)
	done, err := w.group.End(w.Now(), run, o)
	if err != api.OK {
		// Who has the group may have ended it already.
		return
	}
	k := done.Run.Key
	w.happens(api.Event{Kind: api.EventEnd, Run: run, Key: k, Generation: done.Run.Generation, Outcome: o})
	for _, told := range done.Told {
		client := w.clientOf(told.Caller)
		w.happens(api.Event{Kind: api.EventTell, Client: client, Caller: told.Caller, Run: run, Key: k, Outcome: told.Outcome})
		w.tell(told.Caller, w.asked[told.Caller].how, told.Outcome)
	}
	if done.Kept {
		w.happens(api.Event{Kind: api.EventKeep, Run: run, Key: k, Outcome: o})
	}
	for _, gone := range done.Gone {
		w.happens(api.Event{Kind: api.EventDrop, Key: gone})
	}
	for _, left := range done.Left {
		w.cancelRun(left)
		w.abandon(left)
	}
}

// cancelRun cancels the token of a run that nobody waits for any more.
func (w *World) cancelRun(run int) {
	h := w.runs[run]
	h.tokens.Cancel(h.number)
	r, _ := w.group.Run(run)
	w.happens(api.Event{Kind: api.EventCancel, Run: run, Key: r.Key, Generation: r.Generation})
}

// abandon tells that a run was abandoned, which was its key's current one until then.
func (w *World) abandon(run int) {
	r, _ := w.group.Run(run)
	w.happens(api.Event{Kind: api.EventAbandon, Run: run, Key: r.Key, Generation: r.Generation + 1})
}
