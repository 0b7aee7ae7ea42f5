package sketch_test

import (
	"fmt"
	"math/rand"
	"runtime"
	"slices"
	"testing"

	"convoy/api"
	"convoy/sketch"
)

// TestExample: the example of the chapter.
func TestExample(t *testing.T) {
	if s, err := sketch.New(0, 3); s != nil || err != api.ErrArg {
		t.Errorf("New(0, 3): %v, %d", s, err)
	}
	s := fresh(t, 1, 0)
	add(t, s, named("a"), 1)
	add(t, s, named("b"), 2)
	count(t, s, 2, named("a"))
}

// pair is a sketch, and a plain one that should be the same.
type pair struct {
	s *sketch.Sketch
	p *plain
}

// like looks that both are the same, by some keys.
func (x pair) like(t *testing.T, keys []api.Key) {
	t.Helper()
	total(t, x.s, x.p.total.Uint64())
	for _, k := range keys {
		count(t, x.s, x.p.count(k), k)
	}
}

// saw counts what was met by lot.
type saw map[string]int

// enough looks that each of some things was met often.
func (w saw) enough(t *testing.T, times int, what ...string) {
	t.Helper()
	for _, one := range what {
		if w[one] < times {
			t.Errorf("%s: met %d times", one, w[one])
		}
	}
}

// addBy adds a key by lot, once or very often.
func (x pair) addBy(t *testing.T, lot *rand.Rand, keys []api.Key, w saw) {
	t.Helper()
	k := keys[lot.Intn(len(keys))]
	times := 1
	if lot.Intn(30) == 0 {
		times = lot.Intn(200)
	}
	for range times {
		want, wrong := x.p.add(k)
		if got, err := x.s.Add(k); got != want || err != wrong {
			t.Fatalf("Add(%v): %d, %d, not %d, %d", k, got, err, want, wrong)
		}
		switch {
		case wrong != api.OK:
			w["refused"]++
		case want == 255:
			w["full"]++
		}
	}
}

// hotBy asks for hot keys by lot.
func (x pair) hotBy(t *testing.T, lot *rand.Rand, keys []api.Key, w saw) {
	t.Helper()
	var l []api.Key
	for range lot.Intn(2 * len(keys)) {
		l = append(l, keys[lot.Intn(len(keys))])
	}
	n := lot.Intn(len(keys)) - 1
	want, wrong := x.p.hot(n, l)
	if got, err := x.s.Hot(n, l...); !slices.Equal(got, want) || err != wrong {
		t.Fatalf("Hot(%d, %v): %v, %d, not %v, %d", n, l, got, err, want, wrong)
	}
	for i := range want {
		if i > 0 && want[i].Count == want[i-1].Count {
			w["of one count"]++
		}
	}
	if n > 0 && len(want) < n {
		w["fewer"]++
	}
}

// betterBy holds two keys against each other by lot.
func (x pair) betterBy(t *testing.T, lot *rand.Rand, keys []api.Key, w saw) {
	t.Helper()
	a, b := keys[lot.Intn(len(keys))], keys[lot.Intn(len(keys))]
	want := x.p.count(a) > x.p.count(b)
	if got := x.s.Better(a, b); got != want {
		t.Fatalf("Better(%v, %v): %t", a, b, got)
	}
	w[fmt.Sprint("better ", want)]++
}

// mergeBy merges with another one by lot.
func (x pair) mergeBy(t *testing.T, o pair, w saw) pair {
	t.Helper()
	p, wrong := x.p.merge(o.p)
	s, err := x.s.Merge(o.s)
	if err != wrong || (s == nil) != (p == nil) {
		t.Fatalf("Merge: %v, %d, not %d", s, err, wrong)
	}
	if p == nil {
		w["unlike"]++
		return x
	}
	w["merged"]++
	return pair{s, p}
}

// TestLikePlain holds sketches against plain ones, by lot, with clones and with what comes of merging (19.1 to 19.3).
func TestLikePlain(t *testing.T) {
	w := saw{}
	for seed := range int64(60) {
		lot := rand.New(rand.NewSource(seed))
		keys := slices.Clone(wrong[:2])
		for i := range 25 {
			keys = append(keys, numbered(i+100*int(seed)))
		}
		var all []pair
		for range 3 {
			z := []size{{1, 0}, {1, 3}, {2, 2}, {3, 1}, {3, 2}, {8, 3}}[lot.Intn(6)]
			all = append(all, pair{fresh(t, z.rows, z.bits), newPlain(z.rows, z.bits)})
		}
		for range 150 {
			i, j := lot.Intn(3), lot.Intn(3)
			switch lot.Intn(20) {
			case 0:
				all[i].s.Halve()
				all[i].p.halve()
			case 1:
				all[i] = all[i].mergeBy(t, all[j], w)
			case 2:
				all[i] = pair{all[j].s.Clone(), all[j].p.clone()}
			case 3, 4:
				all[i].hotBy(t, lot, keys, w)
			case 5:
				all[i].betterBy(t, lot, keys, w)
			default:
				all[i].addBy(t, lot, keys, w)
			}
		}
		for _, x := range all {
			x.like(t, keys)
		}
	}
	w.enough(t, 30, "refused", "full", "of one count", "fewer", "better true", "better false", "unlike", "merged")
}

// alone tells whether no other one of some keys shares a counter with a key.
func alone(s *sketch.Sketch, k api.Key, others map[api.Key]int) bool {
	own := s.Places(k)
	for other := range others {
		for row, place := range s.Places(other) {
			if other != k && place == own[row] {
				return false
			}
		}
	}
	return true
}

// TestNeverTooLittle: a count is not below how often a key was added, and just that if no counter of it is shared (19.4).
func TestNeverTooLittle(t *testing.T) {
	w := saw{}
	for seed := range int64(400) {
		lot := rand.New(rand.NewSource(seed))
		s := fresh(t, 1+lot.Intn(8), lot.Intn(17))
		var keys []api.Key
		for i := range 1 + lot.Intn(60) {
			keys = append(keys, numbered(i+1000*int(seed)))
		}
		added := map[api.Key]int{}
		for range lot.Intn(4000) {
			// Some keys come far more often than others.
			k := keys[lot.Intn(1+lot.Intn(len(keys)))]
			if added[k] == 255 {
				continue
			}
			added[k]++
			if got, err := s.Add(k); got < added[k] || err != api.OK {
				t.Fatalf("Add(%v), the time number %d: %d, %d", k, added[k], got, err)
			}
			if lot.Intn(500) == 0 {
				s = s.Clone()
			}
		}
		for _, k := range keys {
			got := s.Count(k)
			switch {
			case got < added[k]:
				t.Fatalf("%d: Count(%v): %d, added %d times", seed, k, got, added[k])
			case alone(s, k, added) && got != added[k]:
				t.Fatalf("%d: Count(%v): %d, alone, added %d times", seed, k, got, added[k])
			case got > added[k]:
				w["too much"]++
			case alone(s, k, added):
				w["alone"]++
			default:
				w["shared, and just that"]++
			}
			if added[k] == 255 {
				w["added 255 times"]++
			}
		}
	}
	w.enough(t, 50, "too much", "alone", "shared, and just that", "added 255 times")
}

// TestMergedNeverTooLittle: so it is with what two sketches counted together (19.4).
func TestMergedNeverTooLittle(t *testing.T) {
	for seed := range int64(200) {
		lot := rand.New(rand.NewSource(seed))
		z := size{1 + lot.Intn(8), lot.Intn(10)}
		two := []*sketch.Sketch{fresh(t, z.rows, z.bits), fresh(t, z.rows, z.bits)}
		added := map[api.Key]int{}
		for range lot.Intn(1500) {
			k := numbered(lot.Intn(1 + lot.Intn(40)))
			if added[k] < 255 {
				added[k]++
				two[lot.Intn(2)].Add(k)
			}
		}
		both := merge(t, two[0], two[1])
		for k, n := range added {
			if got := both.Count(k); got < n || alone(both, k, added) && got != n {
				t.Fatalf("%d: Count(%v): %d, added %d times", seed, k, got, n)
			}
		}
	}
}

// TestMany: very many keys in the greatest sketch, and the hottest of them all.
func TestMany(t *testing.T) {
	s := fresh(t, 8, 16)
	var keys []api.Key
	for i := range 100000 {
		k := numbered(i)
		keys = append(keys, k)
		for range 1 + 20*(i%5000/4999) {
			s.Add(k)
		}
	}
	got, err := s.Hot(20, keys...)
	if len(got) != 20 || err != api.OK {
		t.Fatal(got, err)
	}
	for _, h := range got {
		if h.Count < 21 || h.Count != s.Count(h.Key) {
			t.Fatalf("among the hottest: %v", h)
		}
	}
	total(t, s, 100400)
}

// weight is how many bytes a clone of a sketch takes.
func weight(s *sketch.Sketch) uint64 {
	var before, after runtime.MemStats
	runtime.ReadMemStats(&before)
	twin := s.Clone()
	runtime.ReadMemStats(&after)
	runtime.KeepAlive(twin)
	return after.TotalAlloc - before.TotalAlloc
}

// TestNoKeyIsKept: however many keys were added, asked for and told, it is the counters that take room.
func TestNoKeyIsKept(t *testing.T) {
	s := fresh(t, 2, 4)
	for i := range 50000 {
		s.Add(numbered(i))
		s.Hot(1, numbered(i), numbered(i+1))
	}
	if bytes := weight(s); bytes > 4096 {
		t.Errorf("a sketch of 32 counters takes %d bytes", bytes)
	}
}
