package memo_test

import (
	"slices"
	"testing"

	"convoy/api"
	"convoy/memo"
)

// spoilKeys overwrites a list, and what lies in the room behind its end.
func spoilKeys(l []api.Key) {
	l = l[:cap(l)]
	for i := range l {
		l[i] = api.Key{Space: 99, Name: "spoilt"}
	}
}

// spoil overwrites a list, and what lies in the room behind its end.
func spoil(l []api.Kept) {
	l = l[:cap(l)]
	for i := range l {
		l[i] = kept("spoilt", load(99), 99)
	}
}

// TestOfKeepsNothing: what Of was handed is neither changed, its spare room too, nor kept (R4).
func TestOfKeepsNothing(t *testing.T) {
	room := keptValues("abcdefgh", 1)
	l := room[1:4]
	m := of(t, usual, 9, l...)
	if !slices.Equal(room, keptValues("abcdefgh", 1)) {
		t.Errorf("Of changed what it was handed: %v", room)
	}
	second := of(t, usual, 9, l...)
	keep(t, m, 9, named("a"), value(1))
	keep(t, m, 9, named("e"), value(2), named("b"))
	m.Drop(named("c"))
	m.Sweep(100)
	if !slices.Equal(room, keptValues("abcdefgh", 1)) {
		t.Errorf("what was handed in is changed later: %v", room)
	}
	spoil(room)
	same(t, second, usual, 9, keptValues("bcd", 2)...)
}

// TestAllIsNewMemory: what All tells shares nothing with what is kept, nor with another answer (R4).
func TestAllIsNewMemory(t *testing.T) {
	l := keptValues("abcd", 1)
	m := of(t, usual, 9, l...)
	first, second := m.All(), m.All()
	spoil(first)
	if !slices.Equal(second, l) {
		t.Errorf("spoilt with another answer: %v", second)
	}
	spoil(second)
	same(t, m, usual, 9, l...)
	third := m.All()
	m.Tell(9, named("a"))
	keep(t, m, 9, named("e"), value(1), named("a"))
	m.Drop(named("b"))
	m.Sweep(100)
	if !slices.Equal(third, l) {
		t.Errorf("an answer changed later: %v", third)
	}
}

// TestGoneIsNewMemory: the keys that Keep and Sweep tell share nothing with what is kept, nor with another answer (R4).
func TestGoneIsNewMemory(t *testing.T) {
	m := of(t, usual, 9, keptValues("abcd", 5)...)
	_, first, _ := m.Keep(9, named("e"), value(1))
	_, second, _ := m.Keep(9, named("f"), value(2))
	spoilKeys(first)
	if !slices.Equal(second, keys("b")) {
		t.Errorf("spoilt with another answer: %v", second)
	}
	spoilKeys(second)
	left := []api.Kept{kept("c", value('c'), 7), kept("d", value('d'), 8), kept("e", value(1), 9), kept("f", value(2), 9)}
	same(t, m, usual, 9, left...)
	swept, _ := m.Sweep(15)
	last, _ := m.Clone().Sweep(100)
	spoilKeys(swept)
	if !slices.Equal(last, keys("def")) {
		t.Errorf("spoilt with another answer: %v", last)
	}
	spoilKeys(last)
	same(t, m, usual, 15, left[1:]...)
}

// TestTwoApart: two memos have nothing in common.
func TestTwoApart(t *testing.T) {
	a, b := of(t, usual, 9, keptValues("abc", 5)...), of(t, usual, 9, keptValues("ab", 5)...)
	keep(t, a, 20, named("a"), value(1))
	b.Drop(named("b"))
	same(t, a, usual, 20, kept("b", value('b'), 6), kept("c", value('c'), 7), kept("a", value(1), 20))
	same(t, b, usual, 9, keptValues("a", 5)...)
}

// changes is what can be done to a memo at the time 9 with the entries a, b, c, d of the ticks 4 to 7.
func changes() []struct {
	name string
	do   func(m *memo.Memo)
	now  int64
	then []api.Kept
} {
	l := keptValues("abcd", 4)
	return []struct {
		name string
		do   func(m *memo.Memo)
		now  int64
		then []api.Kept
	}{
		{"Look", func(m *memo.Memo) { m.Look(12, named("b")) }, 12, l},
		{"Tell", func(m *memo.Memo) { m.Tell(10, named("b")) }, 10, []api.Kept{l[0], l[2], l[3], l[1]}},
		{"Tell of an old one", func(m *memo.Memo) { m.Tell(99, named("b")) }, 99, l},
		{"Keep", func(m *memo.Memo) { m.Keep(10, named("c"), load(1)) }, 10, []api.Kept{l[0], l[1], l[3], kept("c", load(1), 10)}},
		{"Keep over", func(m *memo.Memo) { m.Keep(9, named("e"), value(2)) }, 9, []api.Kept{l[1], l[2], l[3], kept("e", value(2), 9)}},
		{"Keep of what is not kept", func(m *memo.Memo) { m.Keep(11, named("a"), failure(api.FailBusy, 0, 0)) }, 11, l},
		{"Drop of the first", func(m *memo.Memo) { m.Drop(named("a")) }, 9, l[1:]},
		{"Drop of the last", func(m *memo.Memo) { m.Drop(named("d")) }, 9, l[:3]},
		{"Sweep of some", func(m *memo.Memo) { m.Sweep(13) }, 13, l[2:]},
		{"Sweep of all", func(m *memo.Memo) { m.Sweep(15) }, 15, nil},
	}
}

// TestClone: the clone is the same, and neither of the two sees what is done with the other (10.4).
func TestClone(t *testing.T) {
	l := keptValues("abcd", 4)
	for _, change := range changes() {
		m := of(t, usual, 9, l...)
		clone := m.Clone()
		if clone == m {
			t.Fatal("the clone is the memo itself")
		}
		same(t, clone, usual, 9, l...)
		change.do(m)
		same(t, m, usual, change.now, change.then...)
		same(t, clone, usual, 9, l...)
		second := clone.Clone()
		change.do(clone)
		same(t, clone, usual, change.now, change.then...)
		same(t, second, usual, 9, l...)
		keep(t, second, 9, named("f"), value(1), named("a"))
		same(t, clone, usual, change.now, change.then...)
	}
}

// TestCloneOfNone: one without entries has a clone of its own, too, with its time (10.4).
func TestCloneOfNone(t *testing.T) {
	for _, c := range []api.Config{usual, least, greatest} {
		m := of(t, c, 7)
		clone := m.Clone()
		m.Keep(8, named("a"), value(1))
		same(t, clone, c, 7)
		second := clone.Clone()
		clone.Keep(9, named("b"), load(1))
		same(t, second, c, 7)
		if got, want := m.Len(), min(c.Entries, 1); got != want {
			t.Errorf("there are %d, not %d", got, want)
		}
	}
}

// TestZeroMemo: one that neither New nor Of made keeps nothing, and no call on it panics (R1).
func TestZeroMemo(t *testing.T) {
	var m memo.Memo
	notKept(t, &m, 3, named("a"), value(1))
	sees(t, &m, 3, named("a"), api.Seen{})
	sweeps(t, &m, 3)
	if m.Drop(named("a")) {
		t.Error("Drop(a): true")
	}
	same(t, m.Clone(), api.Config{}, 3)
}
