package snapshot_test

import (
	"strings"
	"testing"

	"convoy/api"
	"convoy/memo"
	"convoy/snapshot"
)

// applies looks that a patch is laid over an old memo.
func applies(t *testing.T, old *memo.Memo, s string, want plain) *memo.Memo {
	t.Helper()
	was := plainOf(old)
	m, at, err := snapshot.Apply(old, s)
	if m == nil || at != 0 || err != api.OK || !plainOf(m).is(want) {
		t.Fatalf("Apply(%q): %v, %d, %d, not %+v", s, m, at, err, want)
	}
	if m == old || !plainOf(old).is(was) {
		t.Fatalf("Apply(%q) changed the old one: %+v", s, plainOf(old))
	}
	return m
}

// applyNot looks that bytes are not laid over an old memo, and where they are wrong.
func applyNot(t *testing.T, old *memo.Memo, s string, place int, want api.Errno) {
	t.Helper()
	was := plainOf(old)
	if m, at, err := snapshot.Apply(old, s); m != nil || at != place || err != want {
		t.Errorf("Apply(%q): %v, %d, %d, not %d, %d", s, m, at, err, place, want)
	}
	if _, w := plainApply(was, s); w != (wrong{place, want}) {
		t.Errorf("by hand Apply(%q): %v, not %d, %d", s, w, place, want)
	}
	if !plainOf(old).is(was) {
		t.Fatalf("Apply(%q) changed the old one: %+v", s, plainOf(old))
	}
}

// before is an old memo, and behind is what comes out of it by change.
var (
	before = plain{
		api.Config{TTL: 500, Negative: 200, Stale: 300, Entries: 400, Flight: 130, Batch: 131, Window: 900}, 1000,
		[]api.Kept{
			kept(named("gone"), 1000, value(1)),
			kept(named("stays"), 900, failure(1, 2, 3)),
			kept(named("other"), 800, value(3)),
			kept(named("goes"), 700, value(4)),
			kept(named("too"), 600, value(5)),
		},
	}
	behind = plain{before.config, 2000, []api.Kept{
		kept(named("too"), 600, value(5)),
		kept(api.Key{Space: 258, Name: "new"}, 2000, value(-300)),
		kept(named("stays"), 900, failure(1, 2, 3)),
		kept(named("other"), 0, failure(2, 700, 150)),
		kept(longest, 1999, failure(1, 0, most)),
	}}
)

// change is the parts of a patch, but the sum.
var change = []any{
	"convoyp1", tail(before.tell()), tail(behind.tell()), num(2000),
	num(2), named("goes"), named("gone"),
	num(3),
	api.Key{Space: 258, Name: "new"}, num(2000), kind(0), sig(-300),
	named("other"), num(0), kind(2), sig(700), num(150),
	longest, num(1999), kind(1), sig(0), num(most),
	num(5), named("too"), api.Key{Space: 258, Name: "new"}, named("stays"), named("other"), longest,
}

// Where the parts of change stand.
const (
	ofOld = 1 + iota
	ofNew
	ofNow
	ofGone
	ofGone1
	ofGone2
	ofOthers
	ofKey
	ofTick
	ofKind
	ofValue
	ofKey2
	ofTick2
	ofKind2
	ofCode2
	ofRun2
	ofKey3
	ofTick3
	ofKind3
	ofCode3
	ofRun3
	ofAll
	ofAll1
	ofAll2
	ofAll3
	ofAll4
	ofAll5
)

// memo is a memo of its own that is as p.
func (p plain) memo(t *testing.T) *memo.Memo {
	t.Helper()
	return memoOf(t, p.config, p.now, p.list...)
}

// TestApply: keys that are gone, that stay, that are other, and new (20.3).
func TestApply(t *testing.T) {
	s, _ := join(change)
	old := before.memo(t)
	m := applies(t, old, sealedByHand(s), behind)
	if got := patch(t, old, m); got != sealedByHand(s) {
		t.Errorf("Patch of what came out: %q", got)
	}
}

// TestApplyBeginnings: of each beginning of a patch the place of the part that is not there whole (20.3).
func TestApplyBeginnings(t *testing.T) {
	ahead, places := join(change)
	s := sealedByHand(ahead)
	for size := range s {
		part := 0
		for part+1 < len(places) && places[part+1] <= size {
			part++
		}
		applyNot(t, before.memo(t), s[:size], places[part], api.ErrBytes)
	}
}

// wrongChanges is, for the parts of change, what may not stand in their place.
func wrongChanges() map[int][]any {
	counts := []any{num(401), num(402), num(65536), num(1<<32 + 1), num(most), num(1<<63 + 1), num(whole)}
	ticks := []any{num(2001), num(maxTime), num(most), num(1 << 63), num(whole)}
	runs := []any{num(0), num(most + 1), num(whole)}
	kinds := []any{kind(3), kind(4), kind(5), kind(6), kind(127), kind(128), kind(255)}
	none := "\x00\x00\x41" + strings.Repeat("k", 65)
	m := map[int][]any{
		0:        {"convoy01", "convoyp2", "Convoyp1", "convoyp\x00", "\x00onvoyp1", "xxxxxxxx"},
		ofNow:    {num(0), num(999), num(maxTime + 1), num(most), num(1 << 63), num(whole)},
		ofGone:   counts,
		ofGone1:  {none, named("new"), longest, named(""), api.Key{Space: 258, Name: "new"}},
		ofGone2:  {none, named("goes"), longest, api.Key{Space: 1, Name: "gone"}},
		ofOthers: counts,
		ofKey:    {none},
		ofTick:   ticks,
		ofKind:   kinds,
		ofKey2:   {none, api.Key{Space: 258, Name: "new"}},
		ofTick2:  ticks,
		ofKind2:  kinds,
		ofRun2:   runs,
		ofKey3:   {none, api.Key{Space: 258, Name: "new"}, named("other")},
		ofTick3:  ticks,
		ofKind3:  kinds,
		ofRun3:   runs,
		ofAll:    counts,
		ofAll1:   {none, named("gone"), named("goes"), named("nowhere"), named("")},
		ofAll2:   {none, named("gone"), named("goes"), named("new"), named("too")},
		ofAll5:   {none, named("gone"), named("goes"), named("other"), named("too"), named("stays"), api.Key{Space: 65535}},
	}
	for at := range change {
		switch change[at].(type) {
		case num, sig:
			for _, s := range noNumbers {
				m[at] = append(m[at], s)
			}
		}
	}
	return m
}

// TestApplyWrong: each part wrong by itself, with the place of it, whatever the sum (20.3).
func TestApplyWrong(t *testing.T) {
	_, places := join(change)
	seen := 0
	for at, l := range wrongChanges() {
		for _, part := range l {
			s, _ := join(with(change, at, part))
			applyNot(t, before.memo(t), sealedByHand(s), places[at], api.ErrBytes)
			applyNot(t, before.memo(t), s+"12345678", places[at], api.ErrBytes)
			seen++
		}
	}
	if seen < 150 {
		t.Errorf("%d wrong parts", seen)
	}
}

// TestApplyTwoWrong: of two wrong parts the first (20.3).
func TestApplyTwoWrong(t *testing.T) {
	_, places := join(change)
	all := wrongChanges()
	for at := range change {
		for later := at + 1; later < len(change); later++ {
			if len(all[at]) == 0 || len(all[later]) == 0 {
				continue
			}
			parts := with(change, later, all[later][0])
			s, _ := join(with(parts, at, all[at][0]))
			applyNot(t, before.memo(t), sealedByHand(s), places[at], api.ErrBytes)
		}
	}
}

// resummed is the parts of change with others in the place of one, and with the sums of an old memo and of the one that comes out.
func resummed(parts []any, old, out plain) string {
	parts = with(with(parts, ofOld, tail(old.tell())), ofNew, tail(out.tell()))
	s, _ := join(parts)
	return sealedByHand(s)
}

// TestApplyTime: not below the old one's time, nor above MaxTime (20.3).
func TestApplyTime(t *testing.T) {
	old := plain{usual, 300, nil}
	for _, now := range []int64{300, 301, maxTime - 1, maxTime} {
		out := plain{usual, now, nil}
		applies(t, old.memo(t), resummed([]any{"convoyp1", "", "", num(now), num(0), num(0), num(0)}, old, out), out)
	}
	for _, now := range []uint64{0, 299, maxTime + 1, whole} {
		applyNot(t, old.memo(t), resummed([]any{"convoyp1", "", "", num(now), num(0), num(0), num(0)}, old, old), 24, api.ErrBytes)
	}
	old = plain{usual, maxTime, nil}
	applies(t, old.memo(t), resummed([]any{"convoyp1", "", "", num(maxTime), num(0), num(0), num(0)}, old, old), old)
}

// TestApplyCounts: as many keys and entries as Entries, and no more, in each list (20.3).
func TestApplyCounts(t *testing.T) {
	two := api.Config{TTL: 5, Entries: 2, Flight: 1, Batch: 1}
	a, b, c := kept(named("a"), 0, value(1)), kept(named("b"), 0, value(2)), kept(named("c"), 0, value(3))
	d := kept(named("d"), 0, value(4))
	old := plain{two, 0, []api.Kept{a, b}}
	entry := func(e api.Kept) string { return plainEntries([]api.Kept{e})[1:] }
	out := plain{two, 0, []api.Kept{d, c}}
	full := []any{"convoyp1", "", "", num(0), num(2), named("b"), named("a"), num(2), entry(c), entry(d), num(2), named("d"), named("c")}
	applies(t, old.memo(t), resummed(full, old, out), out)
	s := resummed(with(full, 4, num(3)), old, out)
	applyNot(t, old.memo(t), s, 25, api.ErrBytes)
	s = resummed(with(full, 7, num(3)), old, out)
	applyNot(t, old.memo(t), s, 25+1+8, api.ErrBytes)
	s = resummed(with(full, 10, num(3)), old, out)
	applyNot(t, old.memo(t), s, 25+1+8+1+14, api.ErrBytes)

	none := plain{config: api.Config{TTL: 5, Flight: 1, Batch: 1}}
	empty := []any{"convoyp1", "", "", num(0), num(0), num(0), num(0)}
	applies(t, none.memo(t), resummed(empty, none, none), none)
	for at := 4; at < 7; at++ {
		applyNot(t, none.memo(t), resummed(with(empty, at, num(1)), none, none), 21+at, api.ErrBytes)
	}
}

// TestApplyKept: an entry with which nothing is kept under the old one's configuration is wrong (20.3).
func TestApplyKept(t *testing.T) {
	for _, x := range []struct {
		c     api.Config
		kinds string
	}{
		{api.Config{TTL: 1, Entries: 1, Flight: 1, Batch: 1}, "\x00"},
		{api.Config{Negative: 1, Entries: 1, Flight: 1, Batch: 1}, "\x01\x02"},
		{api.Config{TTL: 1, Negative: 1, Entries: 1, Flight: 1, Batch: 1}, "\x00\x01\x02"},
		{api.Config{Stale: 1, Window: 1, Entries: 1, Flight: 1, Batch: 1}, ""},
	} {
		for k := range 8 {
			old := plain{config: x.c}
			out := plain{x.c, 0, []api.Kept{kept(named("a"), 0, failure(k, -3, 7))}}
			parts := []any{"convoyp1", "", "", num(0), num(0), num(1), named("a"), num(0), kind(k), sig(-3), num(7), num(1), named("a")}
			if k == 0 {
				out.list[0].Outcome = value(-3)
				parts = with(parts, 10)
			}
			s := resummed(parts, old, out)
			if strings.Contains(x.kinds, string([]byte{byte(k)})) {
				applies(t, old.memo(t), s, out)
			} else {
				applyNot(t, old.memo(t), s, 24+1+1+1+4+1, api.ErrBytes)
			}
		}
	}
}

// TestApplyLoose: what the document does not call wrong is right, though Patch does not tell it so (20.3).
func TestApplyLoose(t *testing.T) {
	a, b := kept(named("a"), 1, value(1)), kept(named("b"), 2, failure(1, 2, 3))
	old := plain{usual, 3, []api.Kept{a, b}}
	c := kept(named("c"), 3, value(3))
	other := kept(named("a"), 3, value(9))
	entries := func(l ...api.Kept) string { return plainEntries(l) }
	keys := func(l ...api.Key) string { return plainKeys(l) }
	for i, x := range []struct {
		gone, others, all string
		out               []api.Kept
	}{
		{keys(b.Key, a.Key), entries(), keys(), nil},                                                          // gone keys, not in order
		{keys(), entries(), keys(), nil},                                                                      // keys that go though they are not gone
		{keys(), entries(), keys(b.Key), []api.Kept{b}},                                                       // one of them
		{keys(), entries(a, b), keys(a.Key, b.Key), []api.Kept{a, b}},                                         // entries that are as they were
		{keys(), entries(c), keys(b.Key), []api.Kept{b}},                                                      // a new one that is not among all
		{keys(a.Key), entries(other, c), keys(c.Key, b.Key), []api.Kept{c, b}},                                // one that is gone, and other
		{keys(), entries(c, other), keys(a.Key, c.Key), []api.Kept{other, c}},                                 // not in the order of all
		{keys(), entries(other), keys(b.Key, a.Key), []api.Kept{b, other}},                                    // in another order than it was
		{keys(a.Key, b.Key), entries(c), keys(c.Key), []api.Kept{c}},                                          // all are gone, and one is new
		{keys(), entries(), keys(b.Key, a.Key), []api.Kept{b, a}},                                             // only used anew
		{keys(b.Key), entries(a), keys(a.Key), []api.Kept{a}},                                                 // as it was, and another one gone
		{keys(), entries(c), keys(c.Key, a.Key, b.Key), []api.Kept{c, a, b}},                                  // a new one that was used the longest time ago
		{keys(), entries(kept(a.Key, 0, value(1))), keys(a.Key), []api.Kept{{Key: a.Key, Outcome: value(1)}}}, // a tick below the one it had
	} {
		out := plain{usual, 3, x.out}
		s := resummed([]any{"convoyp1", "", "", num(3), x.gone, x.others, x.all}, old, out)
		if got, w := plainApply(old, s); w.err != api.OK || !got.is(out) {
			t.Errorf("by hand %d: %+v, %v", i, got, w)
		}
		applies(t, old.memo(t), s, out)
	}
	// One that is gone is not among all, though it is other, too.
	s := resummed([]any{"convoyp1", "", "", num(3), keys(a.Key), entries(other), keys(b.Key, a.Key)}, old, plain{usual, 3, []api.Kept{b, other}})
	applyNot(t, old.memo(t), s, 24+1+5+1+len(entries(other))-1+1+4, api.ErrBytes)
}

// TestApplySum: a sum that is there and another one, ahead of what is left and of the other sums (20.3).
func TestApplySum(t *testing.T) {
	ahead, _ := join(change)
	s := sealedByHand(ahead)
	for i := range 8 {
		b := []byte(s)
		b[len(ahead)+i] ^= 128
		applyNot(t, before.memo(t), string(b), len(ahead), api.ErrSum)
		applyNot(t, before.memo(t), string(b)+"x", len(ahead), api.ErrSum)
		applyNot(t, before.memo(t), s[:len(ahead)+i], len(ahead), api.ErrBytes)
		turned := []byte(s)
		turned[8+i] ^= 1
		applyNot(t, before.memo(t), string(turned), len(ahead), api.ErrSum)
	}
}

// TestApplyLeft: something is left behind the sum, ahead of the other sums (20.3).
func TestApplyLeft(t *testing.T) {
	ahead, _ := join(change)
	s := sealedByHand(ahead)
	for _, left := range []string{"\x00", "x", s, strings.Repeat("\xff", 8), eight(sumByHand(s))} {
		applyNot(t, before.memo(t), s+left, len(s), api.ErrBytes)
	}
	other, _ := join(with(change, ofOld, "12345678"))
	other = sealedByHand(other)
	applyNot(t, before.memo(t), other+"x", len(s), api.ErrBytes)
}

// TestApplyOther: a patch of another memo, and one of which another memo comes out, whichever bit of the sums it is (20.3).
func TestApplyOther(t *testing.T) {
	ahead, _ := join(change)
	for bit := range 64 {
		b := []byte(ahead)
		b[16+bit/8] ^= 1 << (bit % 8)
		applyNot(t, before.memo(t), sealedByHand(string(b)), 16, api.ErrOther)
		b[8+bit/8] ^= 1 << (bit % 8)
		applyNot(t, before.memo(t), sealedByHand(string(b)), 8, api.ErrOther)
		b[16+bit/8] ^= 1 << (bit % 8)
		applyNot(t, before.memo(t), sealedByHand(string(b)), 8, api.ErrOther)
	}
	s, _ := join(with(change, ofNew, tail(before.tell())))
	applyNot(t, before.memo(t), sealedByHand(s), 16, api.ErrOther)
	for _, x := range []struct {
		at   int
		part any
	}{{ofNow, num(2001)}, {ofValue, sig(-301)}, {ofTick2, num(1)}, {ofRun2, num(151)}, {ofCode2, sig(-700)}, {ofKind2, kind(1)}} {
		s, _ := join(with(change, x.at, x.part))
		applyNot(t, before.memo(t), sealedByHand(s), 16, api.ErrOther)
	}
}

// TestApplyOtherMemo: a patch that is right for a memo is not for another one with the same keys (20.3).
func TestApplyOtherMemo(t *testing.T) {
	ahead, _ := join(change)
	s := sealedByHand(ahead)
	for i := range 12 {
		o := plain{before.config, before.now, append([]api.Kept{}, before.list...)}
		switch {
		case i < 5:
			o.list[i].At++
			o.now++
		case i < 7:
			o.list[i-5].Outcome = value(77)
		case i == 7:
			o.list[0], o.list[1] = o.list[1], o.list[0]
		case i == 8:
			o.config.TTL++
		case i == 9:
			o.config.Window--
		case i == 10:
			o.now = 1001
		case i == 11:
			o.list = append(o.list, kept(named("more"), 0, value(1)))
		}
		applyNot(t, o.memo(t), s, 8, api.ErrOther)
	}
	o := plain{before.config, 2001, before.list}
	applyNot(t, o.memo(t), s, 24, api.ErrBytes)
	o = plain{before.config, 1000, before.list[1:]}
	applyNot(t, o.memo(t), s, 24+2+1+7, api.ErrBytes)
	o = behind
	applyNot(t, o.memo(t), s, 24+2+1, api.ErrBytes)
}

// TestApplyTurned: of a patch of which one byte is turned over, at each place and in each way, nothing comes (20.3).
func TestApplyTurned(t *testing.T) {
	ahead, _ := join(change)
	s := sealedByHand(ahead)
	for i := range s {
		for turn := 1; turn < 256; turn++ {
			b := []byte(s)
			b[i] ^= byte(turn)
			_, w := plainApply(before, string(b))
			if w.err == api.OK {
				t.Fatalf("by hand %q is laid over", b)
			}
			applyNot(t, before.memo(t), string(b), w.at, w.err)
		}
	}
}

// TestApplyCut: of a patch of which one byte is cut away, at each place (20.3).
func TestApplyCut(t *testing.T) {
	ahead, _ := join(change)
	s := sealedByHand(ahead)
	for i := range s {
		cut := s[:i] + s[i+1:]
		_, w := plainApply(before, cut)
		if w.err == api.OK {
			t.Fatalf("by hand %q is laid over", cut)
		}
		applyNot(t, before.memo(t), cut, w.at, w.err)
	}
}

// TestUnlikeBytes: a patch is no memo, and a memo no patch.
func TestUnlikeBytes(t *testing.T) {
	s, _ := join(change)
	refuses(t, sealedByHand(s), 0, api.ErrBytes)
	applyNot(t, before.memo(t), before.tell(), 0, api.ErrBytes)
	applyNot(t, before.memo(t), "", 0, api.ErrBytes)
}
