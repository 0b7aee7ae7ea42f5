package sketch_test

import (
	"math"
	"slices"
	"strings"
	"testing"

	"convoy/api"
	"convoy/sketch"
)

// merge answers two sketches together, and looks that both stay as they are.
func merge(t *testing.T, a, b *sketch.Sketch) *sketch.Sketch {
	t.Helper()
	first, second := say(a), say(b)
	both, err := a.Merge(b)
	if both == nil || both == a || both == b || err != api.OK {
		t.Fatalf("Merge: %v, %d", both, err)
	}
	if say(a) != first || say(b) != second {
		t.Fatal("changed by Merge")
	}
	return both
}

// hot looks at the keys with the greatest counts.
func hot(t *testing.T, s *sketch.Sketch, n int, keys []api.Key, want ...api.Hot) {
	t.Helper()
	if got, err := s.Hot(n, keys...); !slices.Equal(got, want) || err != api.OK {
		t.Fatalf("Hot(%d, %v): %v, %d, not %v", n, keys, got, err, want)
	}
}

// TestMergeNil: no sketch to merge with (19.2).
func TestMergeNil(t *testing.T) {
	for _, z := range sizes {
		s := fresh(t, z.rows, z.bits)
		s.Add(named("a"))
		before := sayAll(s)
		if both, err := s.Merge(nil); both != nil || err != api.ErrArg {
			t.Fatalf("Merge(nil): %v, %d", both, err)
		}
		if sayAll(s) != before {
			t.Fatal("changed by Merge(nil)")
		}
	}
}

// TestMergeUnlike: unlike rows, unlike bits, or both, though there be as many counters; both stay as they are (19.2).
func TestMergeUnlike(t *testing.T) {
	all := slices.Concat(sizes, []size{{1, 2}, {4, 0}, {2, 1}, {4, 1}, {8, 2}, {7, 16}, {8, 15}})
	for i, y := range all {
		for j, z := range all {
			if i == j {
				continue
			}
			a, b := fresh(t, y.rows, y.bits), fresh(t, z.rows, z.bits)
			a.Add(named("a"))
			b.Add(named("b"))
			first, second := say(a), say(b)
			if both, err := a.Merge(b); both != nil || err != api.ErrSketch {
				t.Fatalf("Merge of %v with %v: %v, %d", y, z, both, err)
			}
			if say(a) != first || say(b) != second {
				t.Fatalf("changed by Merge of %v with %v", y, z)
			}
		}
	}
}

// TestMerge: each counter is both sketches' together, and the total is (19.2).
func TestMerge(t *testing.T) {
	a, b := fresh(t, 2, 2), fresh(t, 2, 2)
	addSome(t, a, at(t, 2, 0, 0, 1), 3)
	addSome(t, a, at(t, 2, 0, 2, 3), 9)
	addSome(t, b, at(t, 2, 0, 0, 2), 4)
	addSome(t, b, at(t, 2, 0, 1, 1), 5)
	both := merge(t, a, b)
	counters(t, both, 2, []int{7, 5, 9, 0}, []int{0, 8, 4, 9})
	total(t, both, 21)
	other := merge(t, b, a)
	counters(t, other, 2, []int{7, 5, 9, 0}, []int{0, 8, 4, 9})
	total(t, other, 21)
	counters(t, a, 2, []int{3, 0, 9, 0}, []int{0, 3, 0, 9})
	counters(t, b, 2, []int{4, 5, 0, 0}, []int{0, 5, 4, 0})
	count(t, both, 7, at(t, 2, 0, 0, 1))
	count(t, both, 8, at(t, 2, 0, 2, 1))
	total(t, a, 12)
	total(t, b, 9)
}

// TestMergeFull: sums of 254, of 255, and above (19.2).
func TestMergeFull(t *testing.T) {
	for _, z := range sizes {
		for _, c := range [][2]int{{0, 0}, {0, 255}, {255, 0}, {127, 127}, {127, 128}, {128, 128}, {254, 1}, {1, 254}, {1, 255}, {255, 1}, {255, 255}, {200, 100}, {300, 300}} {
			a, b := fresh(t, z.rows, z.bits), fresh(t, z.rows, z.bits)
			addSome(t, a, named("a"), c[0])
			addSome(t, b, named("a"), c[1])
			both := merge(t, a, b)
			count(t, both, min(c[0]+c[1], 255), named("a"))
			total(t, both, uint64(c[0]+c[1]))
			add(t, both, named("a"), min(c[0]+c[1]+1, 255))
			count(t, a, min(c[0], 255), named("a"))
			count(t, b, min(c[1], 255), named("a"))
		}
	}
}

// TestMergeFullEach: a counter that is full, beside others that are not (19.2).
func TestMergeFullEach(t *testing.T) {
	a, b := fresh(t, 2, 1), fresh(t, 2, 1)
	addSome(t, a, at(t, 1, 0, 0, 1), 200)
	addSome(t, b, at(t, 1, 0, 0, 0), 100)
	addSome(t, b, at(t, 1, 0, 1, 1), 55)
	both := merge(t, a, b)
	counters(t, both, 1, []int{255, 55}, []int{100, 255})
	total(t, both, 355)
}

// TestMergeItself: all of it twice, in a sketch of its own (19.2).
func TestMergeItself(t *testing.T) {
	s := fresh(t, 2, 2)
	addSome(t, s, at(t, 2, 0, 0, 1), 3)
	addSome(t, s, at(t, 2, 0, 2, 1), 130)
	both := merge(t, s, s)
	counters(t, both, 2, []int{6, 0, 255, 0}, []int{0, 255, 0, 0})
	total(t, both, 266)
	counters(t, s, 2, []int{3, 0, 130, 0}, []int{0, 130, 0, 0})
	total(t, s, 133)
}

// TestMergeFresh: with a sketch of noughts it is the same, of any size (19.2).
func TestMergeFresh(t *testing.T) {
	for _, z := range sizes {
		s := fresh(t, z.rows, z.bits)
		for i, k := range probes {
			addSome(t, s, k, i%3)
		}
		none := fresh(t, z.rows, z.bits)
		if sayAll(merge(t, s, none)) != sayAll(s) || sayAll(merge(t, none, s)) != sayAll(s) {
			t.Fatalf("%v: another one, merged with noughts", z)
		}
		// What is merged has the size of both, and can be merged again with such alone.
		total(t, merge(t, merge(t, s, s), merge(t, none, s)), 3*s.Total())
		if both, err := merge(t, s, s).Merge(fresh(t, z.rows%8+1, z.bits)); both != nil || err != api.ErrSketch {
			t.Fatalf("%v: Merge with unlike rows: %v, %d", z, both, err)
		}
	}
}

// TestMergeApart: none of the three sees what is done with another one (19.2, R4).
func TestMergeApart(t *testing.T) {
	changes := []func(s *sketch.Sketch){
		func(s *sketch.Sketch) { s.Halve() },
		func(s *sketch.Sketch) { addSome(t, s, named("a"), 3) },
		func(s *sketch.Sketch) {
			for _, k := range probes {
				s.Add(k)
			}
		},
	}
	for _, change := range changes {
		for place := range 3 {
			a, b := busy(t), busy(t)
			addSome(t, b, named("b"), 4)
			three := []*sketch.Sketch{a, b, merge(t, a, b)}
			var before []string
			for _, s := range three {
				before = append(before, sayAll(s))
			}
			change(three[place])
			for i, s := range three {
				if (sayAll(s) != before[i]) != (i == place) {
					t.Fatalf("a change of number %d, seen by number %d", place, i)
				}
			}
		}
	}
}

// warm is a sketch in which the counts of some keys, none of which shares a counter, are 3, 1, 3, 2, 0 and 3.
func warm(t *testing.T) (*sketch.Sketch, []api.Key) {
	t.Helper()
	s := fresh(t, 8, 16)
	keys := []api.Key{{Space: 2, Name: "a"}, named("b"), {Space: 1, Name: "z"}, named("a"), named("c"), {Space: 1, Name: "y"}}
	for i, n := range []int{3, 1, 3, 2, 0, 3} {
		addSome(t, s, keys[i], n)
	}
	return s, keys
}

// warmest is what Hot answers of all keys of the warm sketch.
func warmest(keys []api.Key) []api.Hot {
	return []api.Hot{{Key: keys[5], Count: 3}, {Key: keys[2], Count: 3}, {Key: keys[0], Count: 3}, {Key: keys[3], Count: 2}, {Key: keys[1], Count: 1}, {Key: keys[4]}}
}

// TestHot: the greatest first, of the same the lesser; as many as there are, fewer and more, in whichever order they are handed in (19.2).
func TestHot(t *testing.T) {
	s, keys := warm(t)
	want := warmest(keys)
	before := sayAll(s)
	for n := range 7 {
		for turn := range keys {
			l := slices.Concat(keys[turn:], keys[:turn])
			hot(t, s, n, l, want[:n]...)
			slices.Reverse(l)
			hot(t, s, n, l, want[:n]...)
		}
	}
	for _, n := range []int{6, 7, 8, 100, math.MaxInt - 1, math.MaxInt} {
		hot(t, s, n, keys, want...)
	}
	for i, k := range keys {
		hot(t, s, 1, keys[i:i+1], api.Hot{Key: k, Count: s.Count(k)})
	}
	if sayAll(s) != before {
		t.Fatal("changed by Hot")
	}
}

// TestHotNone: no keys, or none of those asked for (19.2).
func TestHotNone(t *testing.T) {
	s, keys := warm(t)
	for _, n := range []int{0, 1, 2, math.MaxInt} {
		hot(t, s, n, nil)
		hot(t, s, n, []api.Key{})
		hot(t, s, n, wrong)
	}
	hot(t, s, 0, keys)
	hot(t, s, 0, slices.Concat(keys, keys, wrong))
}

// TestHotWrong: n below 0, whatever the keys (19.2).
func TestHotWrong(t *testing.T) {
	s, keys := warm(t)
	before := sayAll(s)
	for _, n := range []int{-1, -2, -6, math.MinInt} {
		for _, l := range [][]api.Key{nil, keys, wrong, keys[:1]} {
			if got, err := s.Hot(n, l...); len(got) != 0 || err != api.ErrArg {
				t.Fatalf("Hot(%d): %v, %d", n, got, err)
			}
		}
	}
	if sayAll(s) != before {
		t.Fatal("changed by Hot")
	}
}

// TestHotOnce: keys that come more than once, next to one another and apart, count once (19.2).
func TestHotOnce(t *testing.T) {
	s, keys := warm(t)
	want := warmest(keys)
	for n := range 9 {
		hot(t, s, n, slices.Concat(keys, keys), want[:min(n, 6)]...)
		hot(t, s, n, slices.Concat(keys[:3], keys, keys[4:], keys[2:3], keys[2:3]), want[:min(n, 6)]...)
	}
	hot(t, s, 3, slices.Repeat(keys[:1], 50), want[2])
	hot(t, s, 5, []api.Key{keys[4], keys[1], keys[4], keys[1]}, want[4], want[5])
}

// TestHotLeftOut: those that may not be take no one's place (19.2).
func TestHotLeftOut(t *testing.T) {
	s, keys := warm(t)
	want := warmest(keys)
	for n := range 9 {
		hot(t, s, n, slices.Concat(wrong, keys), want[:min(n, 6)]...)
		hot(t, s, n, slices.Concat(keys[:2], wrong, keys[2:], wrong), want[:min(n, 6)]...)
	}
	one := fresh(t, 1, 0)
	addSome(t, one, named("a"), 5)
	hot(t, one, 20, slices.Concat(wrong, []api.Key{named(strings.Repeat("n", 64))}), api.Hot{Key: named(strings.Repeat("n", 64)), Count: 5})
}

// TestHotSame: keys of one count stand in the order of keys: spaces, then names byte by byte, a beginning ahead of what goes on (19.2).
func TestHotSame(t *testing.T) {
	want := []api.Key{
		{}, named("\x00"), named("a"), named("a\x00"), named("aa"), named("ab"), named("b"), named("\x7f"), named("\x80"), named("\u00e9"), named("\xff"),
		{Space: 1}, {Space: 1, Name: "a"}, {Space: 2, Name: ""}, {Space: 10, Name: "a"}, {Space: 255}, {Space: 256}, {Space: 65535}, {Space: 65535, Name: "a"},
	}
	for _, times := range []int{0, 1, 300} {
		s := fresh(t, 2, 0)
		addSome(t, s, named("x"), times)
		for turn := range want {
			keys := slices.Concat(want[turn:], want[:turn])
			if turn%2 == 1 {
				slices.Reverse(keys)
			}
			for n := range len(want) + 2 {
				var l []api.Hot
				for _, k := range want[:min(n, len(want))] {
					l = append(l, api.Hot{Key: k, Count: min(times, 255)})
				}
				hot(t, s, n, keys, l...)
			}
		}
	}
}

// TestHotCounts: it is the count that is told, of keys that were never added and share counters too, and behind Halve (19.2).
func TestHotCounts(t *testing.T) {
	s := fresh(t, 2, 2)
	a, b, c := at(t, 2, 0, 0, 0), at(t, 2, 0, 1, 1), at(t, 2, 0, 0, 1)
	addSome(t, s, a, 5)
	addSome(t, s, b, 8)
	hot(t, s, 2, []api.Key{a, b}, api.Hot{Key: b, Count: 8}, api.Hot{Key: a, Count: 5})
	if less(c, a) {
		hot(t, s, 2, []api.Key{a, c}, api.Hot{Key: c, Count: 5}, api.Hot{Key: a, Count: 5})
	} else {
		hot(t, s, 2, []api.Key{a, c}, api.Hot{Key: a, Count: 5}, api.Hot{Key: c, Count: 5})
	}
	s.Halve()
	hot(t, s, 2, []api.Key{a, b}, api.Hot{Key: b, Count: 4}, api.Hot{Key: a, Count: 2})
	addSome(t, s, a, 3)
	hot(t, s, 1, []api.Key{a, b}, api.Hot{Key: a, Count: 5})
}

// TestBetter: like and unlike counts, and keys that may not be, whose count is 0 (19.2).
func TestBetter(t *testing.T) {
	s, keys := warm(t)
	all := slices.Concat(keys, wrong, kinds)
	for _, a := range all {
		for _, b := range all {
			if got, want := s.Better(a, b), s.Count(a) > s.Count(b); got != want {
				t.Fatalf("Better(%v, %v): %t", a, b, got)
			}
		}
	}
	for _, c := range []struct {
		a, b api.Key
		want bool
	}{
		{keys[0], keys[1], true}, {keys[1], keys[0], false}, {keys[0], keys[2], false}, {keys[2], keys[0], false}, {keys[0], keys[0], false},
		{keys[3], keys[1], true}, {keys[1], keys[3], false}, {keys[1], keys[4], true}, {keys[4], keys[1], false}, {keys[4], named("never"), false},
		{keys[1], wrong[0], true}, {wrong[0], keys[1], false}, {keys[4], wrong[0], false}, {wrong[0], keys[4], false}, {wrong[0], wrong[1], false}, {wrong[0], wrong[0], false},
	} {
		if got := s.Better(c.a, c.b); got != c.want {
			t.Errorf("Better(%v, %v): %t", c.a, c.b, got)
		}
	}
	full := fresh(t, 1, 0)
	addSome(t, full, named("a"), 300)
	if full.Better(named("a"), named("b")) || !full.Better(named("a"), wrong[0]) || full.Better(wrong[0], named("a")) {
		t.Error("Better in a sketch that is full")
	}
}
