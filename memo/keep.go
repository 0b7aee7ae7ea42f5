package memo

import (
	"convoy/api"
	"convoy/key"
	"convoy/tick"
)

// checkTick tells what is wrong with handing a tick in.
func (m *Memo) checkTick(now int64) api.Errno {
	if m == nil {
		return api.ErrConfig
	}
	if !tick.Is(now) {
		return api.ErrTick
	}
	if now < m.now {
		return api.ErrBack
	}
	return api.OK
}

// Look tells how the entry of a key is at a tick, and does not use it (10.2).
func (m *Memo) Look(now int64, k api.Key) (api.Seen, api.Errno) {
	if err := m.checkTick(now); err != api.OK {
		return api.Seen{}, err
	}
	if err := key.Check(k); err != api.OK {
		return api.Seen{}, err
	}
	m.now = now
	return m.see(k), api.OK
}

// Tell tells how the entry of a key is at a tick, and uses it if it is fresh or stale (10.2).
func (m *Memo) Tell(now int64, k api.Key) (api.Seen, api.Errno) {
	seen, err := m.Look(now, k)
	if seen.How == api.SeenFresh || seen.How == api.SeenStale {
		m.used.Touch(k)
	}
	return seen, err
}

// see tells how the entry of a key is at the memo's time.
func (m *Memo) see(k api.Key) api.Seen {
	found, there := m.entries[k]
	if !there {
		return api.Seen{}
	}
	return api.Seen{How: m.how(found), Age: m.now - found.at, Outcome: found.outcome}
}

// how tells how an entry is at the memo's time.
func (m *Memo) how(e entry) int {
	fresh, stale := m.config.TTL, m.config.Stale
	if isFailure(e.outcome) {
		fresh, stale = m.config.Negative, 0
	}
	if m.within(e, fresh) {
		return api.SeenFresh
	}
	if m.within(e, fresh, stale) {
		return api.SeenStale
	}
	return api.SeenOld
}

// within tells whether an entry's age at the memo's time is below some times together.
func (m *Memo) within(e entry, times ...int64) bool {
	// No entry is of a tick behind the memo's time, and no time of a configuration is below 0: there is no error.
	is, _ := tick.Within(m.now, e.at, times...)
	return is
}

func isFailure(o api.Outcome) bool { return o.Fail.Kind != api.FailNone }

// Keep keeps an outcome for a key, if it is one to keep: whether it is, and the keys of those that went as there were too many (10.3).
func (m *Memo) Keep(now int64, k api.Key, o api.Outcome) (bool, []api.Key, api.Errno) {
	if err := m.checkTick(now); err != api.OK {
		return false, nil, err
	}
	if err := checkPair(k, o); err != api.OK {
		return false, nil, err
	}
	m.now = now
	if !m.keeps(o) {
		return false, nil, api.OK
	}
	return true, m.put(k, entry{outcome: o, at: now}), api.OK
}

// keeps tells whether an outcome that may be is one to keep.
func (m *Memo) keeps(o api.Outcome) bool {
	if m.config.Entries == 0 {
		return false
	}
	switch o.Fail.Kind {
	case api.FailNone:
		return m.config.TTL > 0
	case api.FailLoad, api.FailPanic:
		return m.config.Negative > 0
	}
	return false
}

// put lays an entry in the place of what was kept of a key that may be, and answers the keys of those that went over the bound.
func (m *Memo) put(k api.Key, e entry) []api.Key {
	m.entries[k] = e
	oldest, goes, _ := m.used.Use(k)
	if !goes {
		return nil
	}
	delete(m.entries, oldest)
	return []api.Key{oldest}
}

// Drop lets the entry of a key go, and tells whether there was one (10.4).
func (m *Memo) Drop(k api.Key) bool {
	if m == nil {
		return false
	}
	delete(m.entries, k)
	return m.used.Drop(k)
}

// Sweep lets all entries go that are old at a tick, and tells their keys, the one that was used the longest time ago first (10.4).
func (m *Memo) Sweep(now int64) ([]api.Key, api.Errno) {
	if err := m.checkTick(now); err != api.OK {
		return nil, err
	}
	m.now = now
	old := m.old()
	for _, k := range old {
		m.Drop(k)
	}
	return old, api.OK
}

// old answers the keys of the entries that are old at the memo's time, the one that was used the longest time ago first.
func (m *Memo) old() []api.Key {
	var keys []api.Key
	for k := range m.used.All() {
		if m.how(m.entries[k]) == api.SeenOld {
			keys = append(keys, k)
		}
	}
	return keys
}
