package snapshot

import (
	"convoy/api"
	"convoy/memo"
)

// Where the two sums of a patch stand.
const (
	oldSumAt = len(patchMark)
	newSumAt = oldSumAt + sumSize
)

// Apply answers the memo that comes out of an old one by a patch; or the place of the first part that is wrong (20.3).
func Apply(old *memo.Memo, s string) (*memo.Memo, int, api.Errno) {
	if old == nil {
		return nil, 0, api.ErrArg
	}
	r := &reader{s: s}
	r.mark(patchMark)
	oldSum, newSum := r.sum(), r.sum()
	now := r.number(old.Now(), api.MaxTime)
	entries := r.patched(old, now)
	r.end()
	if r.err != api.OK {
		return nil, r.at, r.err
	}
	if oldSum != sumOfMemo(old) {
		return nil, oldSumAt, api.ErrOther
	}
	m, at, err := memo.Of(old.Config(), now, entries)
	if newSum != sumOfMemo(m) {
		return nil, newSumAt, api.ErrOther
	}
	return m, at, err
}

// patched takes the three lists of a patch, and answers the entries that come out of it.
func (r *reader) patched(old *memo.Memo, now int64) []api.Kept {
	c := old.Config()
	gone := r.keys(c.Entries, func(k api.Key) bool { return has(old, k) })
	n := news{old: old, gone: placesOf(gone), others: byKey(r.entries(c, now))}
	var all []api.Kept
	for _, k := range r.keys(c.Entries, n.has) {
		kept, _ := n.get(k)
		all = append(all, kept)
	}
	return all
}

// news is an old memo, and what a patch says of its entries.
type news struct {
	old    *memo.Memo
	gone   map[api.Key]int
	others map[api.Key]api.Kept
}

// get answers the entry that a key has by the patch, or as it was.
func (n news) get(k api.Key) (api.Kept, bool) {
	if _, is := n.gone[k]; is {
		return api.Kept{}, false
	}
	if other, is := n.others[k]; is {
		return other, true
	}
	return n.old.Get(k)
}

func (n news) has(k api.Key) bool {
	_, there := n.get(k)
	return there
}

// placesOf answers the place of each of some keys that are unlike.
func placesOf(l []api.Key) map[api.Key]int {
	places := map[api.Key]int{}
	for place, k := range l {
		places[k] = place
	}
	return places
}

// byKey answers entries of keys that are unlike, by their keys.
func byKey(l []api.Kept) map[api.Key]api.Kept {
	all := map[api.Key]api.Kept{}
	for _, kept := range l {
		all[kept.Key] = kept
	}
	return all
}
