package fleet

import (
	"strconv"

	"convoy/api"
	"convoy/audit"
	"convoy/tick"
	"convoy/world"
)

// One is the report of a script: what its world came to behind at most so many turns, or why there is none (27.1).
func One(s api.Script, turns int) api.Report {
	w, at, err := world.New(s)
	if err != api.OK {
		return api.Report{Err: err, At: at}
	}
	w.Go(turns)
	events := w.Events()
	r := api.Report{Turns: w.Turns(), Quiet: w.Quiet(), Now: w.Now(), Runs: begun(events)}
	var told []byte
	for client := range s.Clients {
		if w.Ended(client) {
			r.Ended++
		}
		log := w.Log(client)
		r.Had += len(log)
		told = tell(told, log)
	}
	r.Sum = tick.Hash(string(told), 0)
	r.Broken, r.Where, _ = audit.All(events, s.Config)
	return r
}

// begun is how many runs were begun.
func begun(l []api.Event) int {
	runs := 0
	for _, e := range l {
		if e.Kind == api.EventBegin {
			runs++
		}
	}
	return runs
}

// tell writes behind a text what a client had, and a byte 10.
func tell(text []byte, log []api.Got) []byte {
	for _, got := range log {
		o := got.Outcome
		for _, n := range [...]int64{
			int64(got.Place),
			int64(got.How),
			o.Value,
			int64(o.Fail.Kind),
			int64(o.Fail.Code),
			int64(o.Fail.Run),
			got.At,
		} {
			text = append(strconv.AppendInt(text, n, 10), ' ')
		}
	}
	return append(text, '\n')
}
