package group

import (
	"convoy/api"
	"convoy/memo"
)

// Send answers the runs of the load that gathers, if it is due (16.6).
func (g *Group) Send(now int64) ([]int, api.Errno) {
	if err := g.checkTick(now); err != api.OK {
		return nil, err
	}
	g.now = now
	return g.gathered.Send(now)
}

// Next answers the tick at which the load that gathers is due (16.6).
func (g *Group) Next() (int64, bool) { return g.own().gathered.Due() }

// Gathers answers the runs that gather, in order (16.6).
func (g *Group) Gathers() []int { return g.own().gathered.Runs() }

// Current answers the current run of a key, if it has one (16.6).
func (g *Group) Current(k api.Key) (int, bool) { return g.own().runs.Current(k) }

// Generation answers a key's generation (16.6).
func (g *Group) Generation(k api.Key) int { return g.own().runs.Generation(k) }

// Run answers what a run is, while it is in progress (16.6).
func (g *Group) Run(run int) (api.Run, bool) { return g.own().runs.Run(run) }

// Waiters answers who wait for a run, in the order in which they joined (16.6).
func (g *Group) Waiters(run int) []int { return g.own().runs.Waiters(run) }

// Cancelled tells whether the token of a run in progress is cancelled (16.6).
func (g *Group) Cancelled(run int) bool { return g.own().runs.Cancelled(run) }

// Interest tells how many wait for a run, and one more, if it is a refresh that is not released (16.6).
func (g *Group) Interest(run int) int {
	waiting := len(g.Waiters(run))
	if g.counts(run) {
		return waiting + 1
	}
	return waiting
}

// counts tells whether the entry of a refresh counts as one that waits for it.
func (g *Group) counts(run int) bool {
	r, _ := g.Run(run)
	if !r.Refresh || !g.own().runs.IsCurrent(run) {
		return false
	}
	// No other run than the current one gives its key an entry: one that is there was so when this one was begun, and has not gone since.
	_, kept := g.Entry(r.Key)
	return kept
}

// Progress answers all runs in progress, rising (16.6).
func (g *Group) Progress() []int { return g.own().runs.Progress() }

// Currents answers what all current runs are, in the order of their keys (16.6).
func (g *Group) Currents() []api.Run { return g.own().runs.Currents() }

// Entry answers the entry of a key, however old it is, which is not used by that (16.6).
func (g *Group) Entry(k api.Key) (api.Kept, bool) { return g.own().kept.Get(k) }

// Entries answers all entries, the one that was used the longest time ago first (16.6).
func (g *Group) Entries() []api.Kept { return g.own().kept.All() }

// Config tells the group's configuration (16.6).
func (g *Group) Config() api.Config { return g.own().kept.Config() }

// Memo answers a copy of the group's memo (16.1).
func (g *Group) Memo() *memo.Memo { return g.own().kept.Clone() }

// Now tells the group's time (16.6).
func (g *Group) Now() int64 {
	if g == nil {
		return 0
	}
	return g.now
}
