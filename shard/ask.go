package shard

import (
	"slices"

	"convoy/api"
	"convoy/group"
	"convoy/key"
)

// Send answers the runs of each group's load that is due, group by group (18.2).
func (s *Shards) Send(now int64) ([][]int, api.Errno) {
	if err := s.checkTick(now); err != api.OK {
		return nil, err
	}
	s.now = now
	var loads [][]int
	for place, g := range s.groups {
		// The tick was looked at: there is no error.
		if sent, _ := g.Send(now); len(sent) > 0 {
			loads = append(loads, s.numbers(place, sent))
		}
	}
	return loads, api.OK
}

// Next answers the least tick at which a load that gathers is due (18.2).
func (s *Shards) Next() (int64, bool) {
	least, gathers := int64(0), false
	for _, g := range s.own() {
		due, does := g.Next()
		if does && (!gathers || due < least) {
			least, gathers = due, true
		}
	}
	return least, gathers
}

// own answers the groups; nil Shards have none.
func (s *Shards) own() []*group.Group {
	if s == nil {
		return nil
	}
	return s.groups
}

// Place answers a key's place, of one that may not be, too (18.2).
func (s *Shards) Place(k api.Key) int { return placeAmong(s.Len(), k) }

// placeAmong answers a key's place among so many groups; 0 where there are none.
func placeAmong(n int, k api.Key) int {
	place, _ := key.Part(k, n)
	return place
}

// Group answers a copy of the group of a place, whose runs have its own numbers (18.2).
func (s *Shards) Group(place int) *group.Group {
	if place < 0 || place >= s.Len() {
		return nil
	}
	return s.groups[place].Clone()
}

// Progress answers all runs in progress, rising (18.2).
func (s *Shards) Progress() []int {
	var all []int
	for place, g := range s.own() {
		all = append(all, s.numbers(place, g.Progress())...)
	}
	slices.Sort(all)
	return all
}

// Entries tells how many entries there are in all groups together (18.2).
func (s *Shards) Entries() int {
	all := 0
	for _, g := range s.own() {
		all += len(g.Entries())
	}
	return all
}

// Loads tells for each group how many runs are in progress (18.2).
func (s *Shards) Loads() []int {
	loads := make([]int, s.Len())
	for place, g := range s.own() {
		loads[place] = len(g.Progress())
	}
	return loads
}

// Len tells how many groups there are (18.2).
func (s *Shards) Len() int { return len(s.own()) }
