package table

import (
	"maps"
	"slices"

	"convoy/api"
	"convoy/key"
	"convoy/record"
)

// record answers the record of a run in progress, of another one nil, of which all that can be asked is nothing.
func (t *Table) record(run int) *record.Record {
	if t == nil {
		return nil
	}
	return t.progress[run]
}

// Current answers the current run of a key, if it has one (12.4).
func (t *Table) Current(k api.Key) (int, bool) {
	if t == nil {
		return 0, false
	}
	run, has := t.current[k]
	return run, has
}

// Generation answers a key's generation (12.4).
func (t *Table) Generation(k api.Key) int {
	if t == nil {
		return 0
	}
	return t.generations[k]
}

// Run answers what a run is, while it is in progress (12.4).
func (t *Table) Run(run int) (api.Run, bool) {
	r := t.record(run)
	return r.Run(), r != nil
}

// Waiters answers who wait for a run, in the order in which they joined (12.4).
func (t *Table) Waiters(run int) []int { return t.record(run).Waiters() }

// Cancelled tells whether the token of a run in progress is cancelled (12.4).
func (t *Table) Cancelled(run int) bool { return t.record(run).Cancelled() }

// IsCurrent tells whether a run is its key's current one (12.4).
func (t *Table) IsCurrent(run int) bool {
	r := t.record(run)
	return r != nil && t.current[r.Run().Key] == run
}

// Progress answers all runs in progress, rising (12.4).
func (t *Table) Progress() []int {
	if t == nil {
		return nil
	}
	return slices.Sorted(maps.Keys(t.progress))
}

// Currents answers what all current runs are, in the order of their keys (12.4).
func (t *Table) Currents() []api.Run {
	if t == nil {
		return nil
	}
	runs := make([]api.Run, 0, len(t.current))
	for _, run := range t.current {
		runs = append(runs, t.progress[run].Run())
	}
	slices.SortFunc(runs, func(a, b api.Run) int { return key.Compare(a.Key, b.Key) })
	return runs
}

// Begun tells how many runs were begun (12.4).
func (t *Table) Begun() int {
	if t == nil {
		return 0
	}
	return t.begun
}
