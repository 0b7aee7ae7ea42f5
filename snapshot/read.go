package snapshot

import (
	"convoy/api"
	"convoy/memo"
)

// Read answers the memo whose bytes s is; or the place of the first part that is wrong (20.2).
func Read(s string) (*memo.Memo, int, api.Errno) {
	r := &reader{s: s}
	r.mark(memoMark)
	c := r.config()
	now := r.number(0, api.MaxTime)
	entries := r.entries(c, now)
	r.end()
	if r.err != api.OK {
		return nil, r.at, r.err
	}
	return memo.Of(c, now, entries)
}

// config takes a configuration that may be.
func (r *reader) config() api.Config {
	var c api.Config
	c.TTL = r.time()
	c.Negative = r.time()
	c.Stale = r.time()
	c.Entries = r.size(0, api.MaxEntries)
	c.Flight = r.size(1, api.MaxFlight)
	c.Batch = r.size(1, api.MaxBatch)
	c.Window = r.time()
	return c
}
