package sketch

import (
	"cmp"
	"slices"

	"convoy/api"
	"convoy/key"
)

// Merge answers a new sketch that has counted what both have (19.2).
func (s *Sketch) Merge(o *Sketch) (*Sketch, api.Errno) {
	if s == nil || o == nil {
		return nil, api.ErrArg
	}
	if s.rows != o.rows || s.bits != o.bits {
		return nil, api.ErrSketch
	}
	both := s.Clone()
	for i, c := range o.counters {
		both.counters[i] = sum(both.counters[i], c)
	}
	both.total += o.total
	return both, api.OK
}

// sum is two counters together, as far as one counter can tell.
func sum(a, b uint8) uint8 { return uint8(min(int(a)+int(b), mostCount)) }

// Hot answers the n of some keys with the greatest counts, in order (19.2).
func (s *Sketch) Hot(n int, keys ...api.Key) ([]api.Hot, api.Errno) {
	if s == nil || n < 0 {
		return nil, api.ErrArg
	}
	all := s.counts(keys)
	slices.SortFunc(all, compare)
	// A list of its own, so that who keeps few of very many keys does not keep the others behind them.
	return slices.Clone(all[:min(n, len(all))]), api.OK
}

// counts is each key that may be, once, with its count.
func (s *Sketch) counts(keys []api.Key) []api.Hot {
	var all []api.Hot
	for _, k := range key.Unlike(keys...) {
		if key.Check(k) == api.OK {
			all = append(all, api.Hot{Key: k, Count: s.Count(k)})
		}
	}
	return all
}

// compare is the order of Hot: the greater count is ahead, of the same the lesser key.
func compare(a, b api.Hot) int {
	if c := cmp.Compare(b.Count, a.Count); c != 0 {
		return c
	}
	return key.Compare(a.Key, b.Key)
}

// Better tells whether a key's count is above another one's (19.2).
func (s *Sketch) Better(a, b api.Key) bool { return s.Count(a) > s.Count(b) }
