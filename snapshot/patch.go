package snapshot

import (
	"strings"

	"convoy/api"
	"convoy/key"
	"convoy/memo"
)

// Patch answers what is other in a memo than in an old one, as bytes (20.3).
func Patch(old, m *memo.Memo) (string, api.Errno) {
	if old == nil || m == nil {
		return "", api.ErrArg
	}
	if old.Config() != m.Config() || m.Now() < old.Now() {
		return "", api.ErrOther
	}
	var b strings.Builder
	b.WriteString(patchMark)
	b.WriteString(sumBytes(sumOfMemo(old)))
	b.WriteString(sumBytes(sumOfMemo(m)))
	tellNumber(&b, m.Now())
	tellKeys(&b, gone(old, m))
	tellEntries(&b, others(old, m))
	tellKeys(&b, keysOf(m))
	return sealed(b.String()), api.OK
}

// tellKeys tells how many keys there are, and each.
func tellKeys(b *strings.Builder, l []api.Key) {
	tellNumber(b, int64(len(l)))
	for _, k := range l {
		tellKey(b, k)
	}
}

// gone answers the keys that an old memo has and another one has not, in the order of keys.
func gone(old, m *memo.Memo) []api.Key {
	var l []api.Key
	for _, k := range keysOf(old) {
		if !has(m, k) {
			l = append(l, k)
		}
	}
	return key.Sorted(l)
}

// others answers the entries of a memo that an old one has not, or has otherwise.
func others(old, m *memo.Memo) []api.Kept {
	var l []api.Kept
	for _, kept := range m.All() {
		if was, there := old.Get(kept.Key); !there || was != kept {
			l = append(l, kept)
		}
	}
	return l
}

// keysOf answers the keys of a memo, the one that was used the longest time ago first.
func keysOf(m *memo.Memo) []api.Key {
	var l []api.Key
	for _, kept := range m.All() {
		l = append(l, kept.Key)
	}
	return l
}

func has(m *memo.Memo, k api.Key) bool {
	_, there := m.Get(k)
	return there
}
