package shard

import (
	"convoy/api"
	"convoy/group"
	"convoy/memo"
)

// Resize answers other shards with the entries of these, and the keys of those for which there is no room in their new groups; these stay as they are (18.3).
func (s *Shards) Resize(now int64, n int) (*Shards, []api.Key, api.Errno) {
	if err := s.mayResize(now, n); err != api.OK {
		return nil, nil, err
	}
	c := s.groups[0].Config()
	var gone []api.Key
	var groups []*group.Group
	for _, entries := range s.spread(n) {
		over := max(len(entries)-c.Entries, 0)
		for _, kept := range entries[:over] {
			gone = append(gone, kept.Key)
		}
		groups = append(groups, holding(c, now, entries[over:]))
	}
	return around(groups, now), gone, api.OK
}

// mayResize tells whether the shards may be so many others.
func (s *Shards) mayResize(now int64, n int) api.Errno {
	if err := s.checkTick(now); err != api.OK {
		return err
	}
	if !mayBe(n) {
		return api.ErrArg
	}
	if len(s.Progress()) > 0 {
		return api.ErrMoving
	}
	return api.OK
}

// spread answers all entries by their places among so many groups: there in the order of the old groups, and of one group the one that was used the longest time ago first.
func (s *Shards) spread(n int) [][]api.Kept {
	spread := make([][]api.Kept, n)
	for _, g := range s.groups {
		for _, kept := range g.Entries() {
			place := placeAmong(n, kept.Key)
			spread[place] = append(spread[place], kept)
		}
	}
	return spread
}

// holding answers a group that has some entries, as many as it may at most, and the time now.
func holding(c api.Config, now int64, entries []api.Kept) *group.Group {
	// They were entries of groups of this configuration, each key in one of them, and of no tick above now: there is no error.
	kept, _, _ := memo.Of(c, now, entries)
	g, _ := group.From(kept)
	return g
}
