package snapshot_test

import (
	"runtime"
	"testing"

	"convoy/api"
	"convoy/memo"
	"convoy/snapshot"
)

// spend does things to a memo by which all of its entries are others, and its time.
func spend(m *memo.Memo) {
	now := m.Now() + 5
	for _, e := range m.All() {
		m.Keep(now, e.Key, value(99))
	}
	m.Keep(now, named("spent"), value(98))
	m.Drop(m.All()[0].Key)
}

// TestReadApart: memos that were read share nothing with one another, nor with the one that was told (R4).
func TestReadApart(t *testing.T) {
	m := threePlain.memo(t)
	s := tell(t, m)
	first, _, _ := snapshot.Read(s)
	second, _, _ := snapshot.Read(s)
	spend(first)
	if !plainOf(second).is(threePlain) || !plainOf(m).is(threePlain) {
		t.Error("spoilt with the first one that was read")
	}
	spend(m)
	if !plainOf(second).is(threePlain) || s != threePlain.tell() {
		t.Error("spoilt with the one that was told")
	}
}

// TestApplyApart: what comes out of a patch shares nothing with the old memo, nor with the new one, nor with what comes out again (R4).
func TestApplyApart(t *testing.T) {
	old, m := before.memo(t), behind.memo(t)
	s := patch(t, old, m)
	first := applies(t, old, s, behind)
	second := applies(t, old, s, behind)
	spend(first)
	if !plainOf(old).is(before) || !plainOf(m).is(behind) || !plainOf(second).is(behind) {
		t.Error("spoilt with what came out")
	}
	spend(old)
	spend(m)
	if !plainOf(second).is(behind) || s != behind.patch(before) {
		t.Error("spoilt with the old one, or with the new one")
	}
}

// TestApplySameApart: of memos that are the same, too, what comes out is a memo of its own (R4).
func TestApplySameApart(t *testing.T) {
	old := before.memo(t)
	out := applies(t, old, patch(t, old, old), before)
	spend(out)
	if !plainOf(old).is(before) {
		t.Error("spoilt with what came out")
	}
	spend(old)
	if plainOf(out).is(before) {
		t.Error("mended with the old one")
	}
}

// heap is how many bytes are in use.
func heap() uint64 {
	var stats runtime.MemStats
	runtime.GC()
	runtime.GC()
	runtime.ReadMemStats(&stats)
	return stats.HeapAlloc
}

// TestBytesAreNotKept: of a great patch by which nearly all goes, nothing is kept but what stays (R4).
func TestBytesAreNotKept(t *testing.T) {
	old := many(t, 0)
	small := memoOf(t, greatest, maxTime, kept(named("a new one"), 0, value(1)), old.All()[7])
	var outs []*memo.Memo
	start := heap()
	for range 5 {
		// Each patch is memory of its own, of more than 4 million bytes.
		s, err := snapshot.Patch(old, small)
		if err != api.OK || len(s) < 4<<20 {
			t.Fatal(len(s), err)
		}
		out, _, err := snapshot.Apply(old, s)
		if err != api.OK || out.Len() != 2 {
			t.Fatal(err)
		}
		outs = append(outs, out)
	}
	if end := heap(); end > start+1<<20 {
		t.Errorf("%d bytes are kept of what is not there any more", end-start)
	}
	runtime.KeepAlive(outs)
	runtime.KeepAlive(old)
}

// TestAnswersAreTheSame: what is asked for again is answered the same, in whichever order the entries lie in a map (R5).
func TestAnswersAreTheSame(t *testing.T) {
	old, m := before.memo(t), behind.memo(t)
	s, p := tell(t, old), patch(t, old, m)
	for range 50 {
		if tell(t, old.Clone()) != s || tell(t, before.memo(t)) != s || patch(t, before.memo(t), behind.memo(t)) != p {
			t.Fatal("another answer")
		}
	}
}
