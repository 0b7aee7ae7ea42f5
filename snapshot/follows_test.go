package snapshot_test

import (
	"fmt"
	"math/rand"
	"slices"
	"strconv"
	"testing"

	"convoy/api"
	"convoy/memo"
	"convoy/snapshot"
)

// TestExample: the example of the chapter.
func TestExample(t *testing.T) {
	if s := snapshot.Number(300); s != string([]byte{172, 2}) {
		t.Errorf("Number(300): %q", s)
	}
	takesNone(t, string([]byte{128, 0}), 0)
	if snapshot.Sign(-1) != 1 || snapshot.Sign(1) != 2 {
		t.Error("Sign")
	}
	m := memoOf(t, lowest, 0)
	if s := tell(t, m); len(s) != 8+7+1+1+8 {
		t.Errorf("Tell: %q", s)
	}
	refuses(t, "", 0, api.ErrBytes)
}

// saw counts what was met by lot.
type saw map[string]int

// enough looks that each of some things was met often.
func (w saw) enough(t *testing.T, times int, what ...string) {
	t.Helper()
	for _, one := range what {
		if w[one] < times {
			t.Errorf("%s: met %d times", one, w[one])
		}
	}
}

// configBy is a configuration by lot.
func configBy(lot *rand.Rand) api.Config {
	time := func() int64 {
		return []int64{0, 1, 5, 200, most}[lot.Intn(5)]
	}
	return api.Config{
		TTL: time(), Negative: time(), Stale: time(), Window: time(),
		Entries: []int{0, 1, 3, 5, 200, 65536}[lot.Intn(6)],
		Flight:  []int{1, 200, 4096}[lot.Intn(3)],
		Batch:   []int{1, 200, 1024}[lot.Intn(3)],
	}
}

// keysBy is keys of few spaces and short names; a longest one too.
var keysBy = []api.Key{
	named(""), named("a"), named("b"), named("ab"), {Space: 1}, {Space: 1, Name: "a"}, {Space: 258, Name: "\x00"}, longest,
}

// numberBy is a number with a sign, of any length, by lot.
func numberBy(lot *rand.Rand) int64 { return int64(lot.Uint64()) >> lot.Intn(64) }

// outcomeBy is an outcome by lot.
func outcomeBy(lot *rand.Rand) api.Outcome {
	switch lot.Intn(4) {
	case 0:
		return failure(api.FailLoad, int(numberBy(lot)), 1+lot.Intn(300))
	case 1:
		return failure(api.FailPanic, int(numberBy(lot)), int(lot.Int63()>>lot.Intn(62)|1))
	}
	return value(numberBy(lot))
}

// does does a thing to a memo by lot, and tells what came of it.
func does(m *memo.Memo, lot *rand.Rand) string {
	k := keysBy[lot.Intn(len(keysBy))]
	now := m.Now()
	switch lot.Intn(4) {
	case 0:
		now += int64(lot.Intn(300))
	case 1:
		now += int64(lot.Intn(3))
	}
	switch lot.Intn(9) {
	case 0:
		return fmt.Sprint(m.Drop(k))
	case 1:
		if lot.Intn(4) == 0 {
			return fmt.Sprint(m.Sweep(now))
		}
		return fmt.Sprint(m.Look(now, k))
	case 2, 3:
		return fmt.Sprint(m.Tell(now, k))
	}
	return fmt.Sprint(m.Keep(now, k, outcomeBy(lot)))
}

// memoBy is a memo to which things were done by lot.
func memoBy(t *testing.T, lot *rand.Rand) *memo.Memo {
	m := memoOf(t, configBy(lot), []int64{0, 0, 100, maxTime - 10000, maxTime}[lot.Intn(5)])
	for range lot.Intn(30) {
		does(m, lot)
	}
	return m
}

// turnBy spoils bytes by lot in a place or two; the sum behind all is often made right again.
func turnBy(lot *rand.Rand, s string) string {
	b := []byte(s)
	for range 1 + lot.Intn(2) {
		i := lot.Intn(len(b))
		if lot.Intn(4) == 0 {
			i = min(lot.Intn(30), len(b)-1)
		}
		switch lot.Intn(8) {
		case 0:
			b = slices.Delete(b, i, i+1)
		case 1:
			b = slices.Insert(b, i, byte(lot.Intn(256)))
		case 2:
			b[i] = 0
		case 3:
			b[i]++
		case 4:
			b[i]--
		case 5:
			b[i] ^= 1 << lot.Intn(8)
		case 6:
			j := lot.Intn(len(b))
			b[i], b[j] = b[j], b[i]
		case 7:
			b = b[:i+1]
		}
	}
	if lot.Intn(4) > 0 && len(b) >= 8 {
		return sealedByHand(string(b[:len(b)-8]))
	}
	return string(b)
}

// noted tells a lot's outcome as a word.
func noted(w wrong) string { return strconv.Itoa(int(w.err)) }

// TestReadByLot: any memo told and read again, and its bytes spoilt, held against those read by hand (20.2, 20.5).
func TestReadByLot(t *testing.T) {
	w := saw{}
	for seed := range int64(1000) {
		lot := rand.New(rand.NewSource(seed))
		m := memoBy(t, lot)
		s := tell(t, m)
		again := reads(t, s, plainOf(m))
		if !snapshot.Same(m, again) {
			t.Fatalf("%d: Read of Tell is another one", seed)
		}
		if m.Len() > 2 {
			w["entries"]++
		}
		for range 40 {
			turned := turnBy(lot, s)
			want, bad := plainRead(turned)
			w[noted(bad)]++
			if bad.err != api.OK {
				refuses(t, turned, bad.at, bad.err)
				continue
			}
			reads(t, turned, want)
		}
	}
	w.enough(t, 200, "entries", "0", "200", "201")
}

// TestGoesOn: a memo that was told and read again goes on as the first one (20.5).
func TestGoesOn(t *testing.T) {
	w := saw{}
	for seed := range int64(600) {
		lot := rand.New(rand.NewSource(seed))
		m := memoBy(t, lot)
		again, _, err := snapshot.Read(tell(t, m))
		if err != api.OK {
			t.Fatal(err)
		}
		for range 30 {
			next := lot.Int63()
			one := does(m, rand.New(rand.NewSource(next)))
			other := does(again, rand.New(rand.NewSource(next)))
			if one != other || !snapshot.Same(m, again) || !plainOf(m).is(plainOf(again)) {
				t.Fatalf("%d: %s, not %s", seed, other, one)
			}
			w[one[:1]]++
			if m.Len() == m.Config().Entries && m.Len() > 0 {
				w["full"]++
			}
		}
	}
	w.enough(t, 200, "{", "t", "f", "full")
}

// TestPatchByLot: a patch of what things were done to by lot, laid over the old one, over others, and spoilt (20.3, 20.5).
func TestPatchByLot(t *testing.T) {
	w := saw{}
	for seed := range int64(900) {
		lot := rand.New(rand.NewSource(seed))
		old := memoBy(t, lot)
		m := old.Clone()
		for range lot.Intn(12) {
			does(m, lot)
		}
		s := patch(t, old, m)
		if out := applies(t, old, s, plainOf(m)); !snapshot.Same(out, m) {
			t.Fatalf("%d: Apply of Patch is another one", seed)
		}
		gone, others := 0, 0
		for _, e := range old.All() {
			if _, there := m.Get(e.Key); !there {
				gone++
			}
		}
		for _, e := range m.All() {
			if was, _ := old.Get(e.Key); was != e {
				others++
			}
		}
		w[fmt.Sprint("gone ", gone > 0, " other ", others > 0)]++
		over := old.Clone()
		does(over, lot)
		w["over another: "+noted(applyLike(t, over, s))]++
		for range 30 {
			w["spoilt: "+noted(applyLike(t, old, turnBy(lot, s)))]++
		}
	}
	w.enough(t, 20, "gone true other true", "gone true other false", "gone false other true", "gone false other false")
	w.enough(t, 20, "over another: 0", "over another: 200", "over another: 202")
	w.enough(t, 20, "spoilt: 0", "spoilt: 200", "spoilt: 201", "spoilt: 202")
}

// applyLike looks that a patch is laid over a memo, or refused, as by hand.
func applyLike(t *testing.T, old *memo.Memo, s string) wrong {
	t.Helper()
	want, bad := plainApply(plainOf(old), s)
	if bad.err != api.OK {
		applyNot(t, old, s, bad.at, bad.err)
	} else {
		applies(t, old, s, want)
	}
	return bad
}

// TestPatchPutTogether: lists of a patch put together by lot, with the right sums, as by hand (20.3).
func TestPatchPutTogether(t *testing.T) {
	w := saw{}
	pick := func(lot *rand.Rand) []api.Key {
		var l []api.Key
		for range lot.Intn(4) {
			l = append(l, keysBy[lot.Intn(len(keysBy))])
		}
		return l
	}
	for seed := range int64(12000) {
		lot := rand.New(rand.NewSource(seed))
		old := plainOf(memoBy(t, lot))
		now := old.now + int64(lot.Intn(3)) - int64(lot.Intn(10)/9)
		if now < 0 || now > maxTime {
			continue
		}
		var others []api.Kept
		for _, k := range pick(lot) {
			others = append(others, kept(k, now-int64(lot.Intn(3))+int64(lot.Intn(30)/29), outcomeBy(lot)))
		}
		gone, all := pick(lot), pick(lot)
		if len(old.list) > 0 && lot.Intn(2) == 0 {
			gone = []api.Key{old.list[0].Key}
		}
		out := plain{config: old.config, now: now}
		for _, k := range all {
			e, other := plain{list: others}.get(k)
			if !other {
				e, _ = old.get(k)
			}
			out.list = append(out.list, e)
		}
		if slices.ContainsFunc(slices.Concat(out.list, others), func(e api.Kept) bool { return e.At < 0 }) {
			continue
		}
		s := "convoyp1" + tail(old.tell()) + tail(out.tell()) + plainNumber(now) + plainKeys(gone) + plainEntries(others) + plainKeys(all)
		w[noted(applyLike(t, old.memo(t), sealedByHand(s)))]++
	}
	w.enough(t, 100, "0", "200")
}

// TestChain: patches laid over one another lead from the first memo to the last (20.5).
func TestChain(t *testing.T) {
	for seed := range int64(200) {
		lot := rand.New(rand.NewSource(seed))
		m := memoBy(t, lot)
		copied, _, _ := snapshot.Read(tell(t, m))
		for range 10 {
			old := m.Clone()
			for range lot.Intn(5) {
				does(m, lot)
			}
			copied = applies(t, copied, patch(t, old, m), plainOf(m))
		}
		if !snapshot.Same(m, copied) {
			t.Fatalf("%d: another one", seed)
		}
	}
}

// many is a memo of the greatest configuration that is full.
func many(t *testing.T, shift int) *memo.Memo {
	var l []api.Kept
	for i := range 65536 {
		k := api.Key{Space: uint16(i), Name: longest.Name[:59] + fmt.Sprintf("%05x", i+shift)}
		l = append(l, kept(k, int64(i), value(int64(-i))))
	}
	return memoOf(t, greatest, maxTime, l...)
}

// TestMany: as many entries as there may be, of which all go, and all are new.
func TestMany(t *testing.T) {
	old, m := many(t, 0), many(t, 1)
	s, err := snapshot.Tell(old)
	if err != api.OK {
		t.Fatal(err)
	}
	again, at, err := snapshot.Read(s)
	if at != 0 || err != api.OK || !snapshot.Same(again, old) {
		t.Fatal("Read", at, err)
	}
	patch, err := snapshot.Patch(old, m)
	if err != api.OK {
		t.Fatal(err)
	}
	out, at, err := snapshot.Apply(old, patch)
	if at != 0 || err != api.OK || !snapshot.Same(out, m) {
		t.Fatal("Apply", at, err)
	}
	if out, at, err := snapshot.Apply(m, patch); out != nil || at != 8+8+8+9+3 || err != api.ErrBytes {
		t.Fatal("Apply to the new one", at, err)
	}
}
