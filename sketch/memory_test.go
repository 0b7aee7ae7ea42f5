package sketch_test

import (
	"slices"
	"testing"

	"convoy/api"
	"convoy/sketch"
)

// spoil overwrites a list, and what lies in the room behind its end.
func spoil[T any](l []T, with T) {
	l = l[:cap(l)]
	for i := range l {
		l[i] = with
	}
}

// TestPlacesApart: an answer shares no memory with another one, nor with what is kept (R4).
func TestPlacesApart(t *testing.T) {
	for _, z := range sizes {
		s := fresh(t, z.rows, z.bits)
		for _, k := range probes[:20] {
			s.Add(k)
		}
		before := sayAll(s)
		k := named("a")
		first, second := s.Places(k), s.Places(k)
		want := slices.Clone(second)
		spoil(first, 99)
		if !slices.Equal(second, want) {
			t.Fatalf("spoilt with another answer: %d, not %d", second, want)
		}
		spoil(second, 99)
		if got := s.Places(k); !slices.Equal(got, want) || sayAll(s) != before {
			t.Fatalf("spoilt with an answer: %d, not %d", got, want)
		}
	}
}

// TestHotApart: what is handed in stays as it was, its spare room too, and is not kept; what is handed out is new (R4).
func TestHotApart(t *testing.T) {
	s, keys := warm(t)
	before := sayAll(s)
	room := slices.Concat(keys, wrong[:1], keys[:2], keys, kinds)
	was := slices.Clone(room)
	for _, n := range []int{0, 1, 3, 6, 100} {
		list := room[:len(keys)+3]
		want, err := s.Hot(n, list...)
		if err != api.OK || !slices.Equal(room, was) {
			t.Fatalf("Hot(%d) changed what was handed in: %v, %d", n, room, err)
		}
		first, _ := s.Hot(n, list...)
		second, _ := s.Hot(n, list...)
		spoil(first, api.Hot{Key: named("spoilt"), Count: 99})
		if !slices.Equal(second, want) || !slices.Equal(room, was) {
			t.Fatalf("spoilt with another answer: %v, %v", second, room)
		}
		spoil(room, named("spoilt"))
		if !slices.Equal(second, want) || sayAll(s) != before {
			t.Fatalf("spoilt with what was handed in: %v", second)
		}
		copy(room, was)
		if got, _ := s.Hot(n, list...); !slices.Equal(got, want) {
			t.Fatalf("Hot(%d): %v, not %v", n, got, want)
		}
	}
}

// TestHotHasNoOthers: what few keys are handed out does not hold on to the many others (R4).
func TestHotHasNoOthers(t *testing.T) {
	s := fresh(t, 1, 4)
	var keys []api.Key
	for i := range 1000 {
		keys = append(keys, numbered(i))
	}
	got, err := s.Hot(2, keys...)
	if len(got) != 2 || err != api.OK || cap(got) > 100 {
		t.Fatalf("Hot: %v, %d, room for %d", got, err, cap(got))
	}
	for _, h := range got[:cap(got)][2:] {
		if h != (api.Hot{}) {
			t.Fatalf("in the spare room: %v", h)
		}
	}
}

// TestClone: the clone is the same, and neither of the two sees what is done with the other (19.3).
func TestClone(t *testing.T) {
	changes := []func(s *sketch.Sketch){
		func(s *sketch.Sketch) { s.Halve() },
		func(s *sketch.Sketch) { addSome(t, s, named("a"), 1) },
		func(s *sketch.Sketch) { addSome(t, s, named("b"), 300) },
		func(s *sketch.Sketch) { addSome(t, s, numbered(3), 2); s.Halve() },
		func(s *sketch.Sketch) {
			for _, k := range probes {
				s.Add(k)
			}
		},
	}
	for _, z := range sizes {
		s := fresh(t, z.rows, z.bits)
		for i, k := range probes {
			addSome(t, s, k, i%4)
		}
		before := sayAll(s)
		var then []string
		for _, change := range changes {
			twin := s.Clone()
			if twin == nil || twin == s || sayAll(twin) != before {
				t.Fatalf("%v: the clone is another one", z)
			}
			change(twin)
			then = append(then, sayAll(twin))
			if then[len(then)-1] == before || sayAll(s) != before {
				t.Fatalf("%v: changed with its clone, or not at all", z)
			}
		}
		for i, change := range changes {
			one := s.Clone()
			twin := one.Clone()
			change(one)
			if sayAll(twin) != before || sayAll(one) != then[i] {
				t.Fatalf("%v: a clone is changed with what it is a clone of", z)
			}
		}
	}
}

// TestCloneMerges: the clone has the size of the sketch (19.3).
func TestCloneMerges(t *testing.T) {
	for _, y := range sizes {
		for _, z := range sizes {
			want := api.OK
			if y != z {
				want = api.ErrSketch
			}
			if _, err := fresh(t, y.rows, y.bits).Clone().Merge(fresh(t, z.rows, z.bits)); err != want {
				t.Fatalf("Merge of %v with %v: %d", y, z, err)
			}
		}
	}
}
