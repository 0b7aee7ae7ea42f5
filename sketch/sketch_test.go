package sketch_test

import (
	"fmt"
	"math"
	"slices"
	"strings"
	"testing"

	"convoy/api"
	"convoy/sketch"
)

// The calls are those that the chapter lists: a change of one does not compile.
var (
	_ func(int, int) (*sketch.Sketch, api.Errno)                       = sketch.New
	_ func(*sketch.Sketch, api.Key) (int, api.Errno)                   = (*sketch.Sketch).Add
	_ func(*sketch.Sketch, api.Key) int                                = (*sketch.Sketch).Count
	_ func(*sketch.Sketch)                                             = (*sketch.Sketch).Halve
	_ func(*sketch.Sketch) uint64                                      = (*sketch.Sketch).Total
	_ func(*sketch.Sketch, *sketch.Sketch) (*sketch.Sketch, api.Errno) = (*sketch.Sketch).Merge
	_ func(*sketch.Sketch, int, ...api.Key) ([]api.Hot, api.Errno)     = (*sketch.Sketch).Hot
	_ func(*sketch.Sketch, api.Key, api.Key) bool                      = (*sketch.Sketch).Better
	_ func(*sketch.Sketch, api.Key) []int                              = (*sketch.Sketch).Places
	_ func(*sketch.Sketch) *sketch.Sketch                              = (*sketch.Sketch).Clone
)

// named is the key of a name, in the space 0.
func named(name string) api.Key { return api.Key{Name: name} }

// numbered is a key of its own for each number.
func numbered(i int) api.Key { return api.Key{Space: uint16(i % 3), Name: fmt.Sprint("k", i)} }

// kinds is keys of all kinds that may be.
var kinds = []api.Key{
	{}, named("a"), named("b"), named("ab"), named("ba"), named("\x00"), named("\x00\x00"), named("\xff\xfe\x80"), named("\u00e9\u20ac"), named("a:b"),
	named(strings.Repeat("n", 63)), named(strings.Repeat("n", 64)), named(strings.Repeat("\xff", 64)),
	{Space: 1}, {Space: 1, Name: "a"}, {Space: 255, Name: "a"}, {Space: 256, Name: "a"}, {Space: 65535}, {Space: 65535, Name: strings.Repeat("z", 64)},
}

// wrong is keys that may not be; some of their lengths are, modulo 256, those of keys that may be.
var wrong = []api.Key{
	named(strings.Repeat("n", 65)), named(strings.Repeat("n", 66)), named(strings.Repeat("n", 128)), named(strings.Repeat("n", 255)), named(strings.Repeat("n", 256)),
	named(strings.Repeat("n", 257)), named(strings.Repeat("n", 320)), {Space: 65535, Name: strings.Repeat("\x00", 65)}, {Space: 1, Name: strings.Repeat("x", 100000)},
}

// size is how many rows and bits a sketch has.
type size struct{ rows, bits int }

// sizes is the least and the greatest that may be, and some between.
var sizes = []size{{1, 0}, {1, 1}, {1, 5}, {1, 16}, {2, 0}, {2, 3}, {3, 2}, {4, 10}, {7, 15}, {8, 0}, {8, 1}, {8, 16}}

// fresh makes a sketch.
func fresh(t *testing.T, rows, bits int) *sketch.Sketch {
	t.Helper()
	s, err := sketch.New(rows, bits)
	if s == nil || err != api.OK {
		t.Fatalf("New(%d, %d): %v, %d", rows, bits, s, err)
	}
	return s
}

// add counts a key once more, and looks at its count then.
func add(t *testing.T, s *sketch.Sketch, k api.Key, want int) {
	t.Helper()
	if got, err := s.Add(k); got != want || err != api.OK {
		t.Fatalf("Add(%v): %d, %d, not %d", k, got, err, want)
	}
	if got := s.Count(k); got != want {
		t.Fatalf("Count(%v) behind Add: %d, not %d", k, got, want)
	}
}

// addSome counts a key some times more.
func addSome(t *testing.T, s *sketch.Sketch, k api.Key, times int) {
	t.Helper()
	for range times {
		add(t, s, k, min(s.Count(k)+1, 255))
	}
}

// total looks at how many were counted.
func total(t *testing.T, s *sketch.Sketch, want uint64) {
	t.Helper()
	if got := s.Total(); got != want {
		t.Fatalf("Total: %d, not %d", got, want)
	}
}

// count looks at the counts of some keys.
func count(t *testing.T, s *sketch.Sketch, want int, keys ...api.Key) {
	t.Helper()
	for _, k := range keys {
		if got := s.Count(k); got != want {
			t.Fatalf("Count(%v): %d, not %d", k, got, want)
		}
	}
}

// found is the keys of each places, by the size and the places, of all numbers up to some.
var found = map[size]map[string][]api.Key{}

// at is a key whose counters have these places, the one number i of them.
func at(t *testing.T, bits, i int, places ...int) api.Key {
	t.Helper()
	z := size{len(places), bits}
	if found[z] == nil {
		found[z] = map[string][]api.Key{}
		for n := range 2000 {
			where := fmt.Sprint(placesByHand(numbered(n), z.rows, bits))
			found[z][where] = append(found[z][where], numbered(n))
		}
	}
	l := found[z][fmt.Sprint(places)]
	if i >= len(l) {
		t.Fatal("too few keys at", places)
	}
	return l[i]
}

// counter reads the counter of a row and a place, in a clone whose other counters are all full: a key's count is that counter then.
func counter(t *testing.T, s *sketch.Sketch, rows, bits, row, place int) int {
	t.Helper()
	twin := s.Clone()
	here := make([]int, rows)
	here[row] = place
	if rows > 1 {
		beside := slices.Clone(here)
		beside[row] = (place + 1) % (1 << bits)
		full := at(t, bits, 0, beside...)
		for twin.Count(full) < 255 {
			addSome(t, twin, full, 1)
		}
	}
	return twin.Count(at(t, bits, 0, here...))
}

// counters holds every counter of a sketch against what it should be, row by row.
func counters(t *testing.T, s *sketch.Sketch, bits int, want ...[]int) {
	t.Helper()
	for row, l := range want {
		for place, c := range l {
			if got := counter(t, s, len(want), bits, row, place); got != c {
				t.Fatalf("the counter %d of the row %d: %d, not %d", place, row, got, c)
			}
		}
	}
}

// probes is keys enough to meet each counter of a small sketch, and most of a greater one's.
var probes = func() []api.Key {
	l := slices.Clone(kinds)
	for i := range 300 {
		l = append(l, numbered(i))
	}
	return l
}()

// say is a text of what can be asked of a sketch without a change.
func say(s *sketch.Sketch) string {
	var text strings.Builder
	fmt.Fprint(&text, s.Total(), s.Places(api.Key{}))
	for _, k := range probes {
		fmt.Fprint(&text, " ", s.Count(k))
	}
	return text.String()
}

// sayAll says what a clone of a sketch answers to adding, too: behind that, counters can be seen that a count does not tell.
func sayAll(s *sketch.Sketch) string {
	twin := s.Clone()
	text := say(s)
	for _, k := range slices.Concat(probes, probes) {
		n, err := twin.Add(k)
		text += fmt.Sprint(" ", n, err)
	}
	return text + say(twin)
}

// busy is a sketch of three rows of four in which counters are unlike.
func busy(t *testing.T) *sketch.Sketch {
	t.Helper()
	s := fresh(t, 3, 2)
	for i := range 23 {
		addSome(t, s, numbered(i), 1+i*i%17)
	}
	return s
}

// TestNumbers: the error has the number that the chapter names.
func TestNumbers(t *testing.T) {
	if api.ErrSketch != 190 || api.ErrKey != 20 || api.ErrArg != 1 || api.MaxName != 64 {
		t.Error(api.ErrSketch, api.ErrKey, api.ErrArg, api.MaxName)
	}
}

// TestNew: the least and the greatest that may be; all is nought (19.1).
func TestNew(t *testing.T) {
	for _, rows := range []int{1, 2, 3, 7, 8} {
		for _, bits := range []int{0, 1, 2, 15, 16} {
			s := fresh(t, rows, bits)
			total(t, s, 0)
			count(t, s, 0, probes...)
			add(t, s, named("a"), 1)
			total(t, s, 1)
		}
	}
}

// TestNewWrong: rows or bits that may not be, or both (19.1).
func TestNewWrong(t *testing.T) {
	noRows := []int{0, -1, -2, -8, 9, 10, 16, 64, math.MinInt, math.MaxInt}
	noBits := []int{-1, -2, -16, 17, 18, 32, 63, 64, math.MinInt, math.MaxInt}
	refuse := func(rows, bits int) {
		t.Helper()
		if s, err := sketch.New(rows, bits); s != nil || err != api.ErrArg {
			t.Errorf("New(%d, %d): %v, %d", rows, bits, s, err)
		}
	}
	for _, rows := range noRows {
		for _, bits := range append(noBits, 0, 1, 3, 16) {
			refuse(rows, bits)
		}
	}
	for _, bits := range noBits {
		for _, rows := range []int{1, 2, 7, 8} {
			refuse(rows, bits)
		}
	}
}

// TestNewApart: two sketches know nothing of one another (R5).
func TestNewApart(t *testing.T) {
	a, b := fresh(t, 2, 3), fresh(t, 2, 3)
	addSome(t, a, named("a"), 5)
	total(t, b, 0)
	count(t, b, 0, probes...)
	a.Halve()
	add(t, b, named("a"), 1)
	count(t, a, 2, named("a"))
}

// TestPlaces: some that were worked out apart from the program (19.1).
func TestPlaces(t *testing.T) {
	for _, c := range []struct {
		k          api.Key
		rows, bits int
		want       []int
	}{
		{api.Key{}, 8, 16, []int{54243, 34245, 23923, 32152, 34296, 54389, 5150, 48502}},
		{api.Key{}, 3, 5, []int{0, 8, 27}},
		{named("a"), 1, 1, []int{0}},
		{named("a"), 8, 16, []int{27413, 50332, 19973, 37688, 42653, 30569, 62083, 10391}},
		{named("a"), 3, 5, []int{3, 13, 23}},
		{named("a"), 2, 10, []int{593, 13}},
		{named("b"), 8, 16, []int{63428, 58935, 513, 47114, 3275, 25648, 11269, 51966}},
		{named("b"), 2, 10, []int{881, 943}},
		{api.Key{Space: 1, Name: "a"}, 3, 5, []int{9, 17, 29}},
		{api.Key{Space: 256, Name: "a"}, 1, 1, []int{1}},
		{api.Key{Space: 256, Name: "a"}, 3, 5, []int{25, 25, 31}},
		{api.Key{Space: 65535}, 2, 10, []int{808, 733}},
		{api.Key{Space: 65535, Name: "\x00\xff\x80"}, 8, 16, []int{17507, 48670, 24050, 30312, 18031, 29119, 25970, 1243}},
		{api.Key{Space: 7, Name: strings.Repeat("k", 64)}, 8, 16, []int{6162, 16593, 49357, 63014, 51348, 9709, 960, 3800}},
	} {
		if got := fresh(t, c.rows, c.bits).Places(c.k); !slices.Equal(got, c.want) {
			t.Errorf("Places(%v), %d rows, %d bits: %d, not %d", c.k, c.rows, c.bits, got, c.want)
		}
	}
}

// TestPlacesByHand: keys of all kinds in sketches of all sizes, whatever was added (19.1).
func TestPlacesByHand(t *testing.T) {
	for rows := 1; rows <= 8; rows++ {
		for bits := range 17 {
			s := fresh(t, rows, bits)
			for i, k := range probes[:60] {
				got := s.Places(k)
				if want := placesByHand(k, rows, bits); !slices.Equal(got, want) {
					t.Fatalf("Places(%v), %d rows, %d bits: %d, not %d", k, rows, bits, got, want)
				}
				for _, place := range got {
					if place < 0 || place >= 1<<bits {
						t.Fatalf("Places(%v), %d rows, %d bits: %d", k, rows, bits, got)
					}
				}
				if i%3 == 0 {
					s.Add(k)
				}
			}
		}
	}
}

// TestPlacesNoBits: one counter in each row, which all keys have (19.1).
func TestPlacesNoBits(t *testing.T) {
	for _, rows := range []int{1, 3, 8} {
		s := fresh(t, rows, 0)
		for _, k := range probes {
			if got := s.Places(k); !slices.Equal(got, make([]int, rows)) {
				t.Fatalf("Places(%v) of %d rows: %d", k, rows, got)
			}
		}
	}
}

// TestPlacesWrong: nothing of a key that may not be (19.1).
func TestPlacesWrong(t *testing.T) {
	for _, z := range sizes {
		s := fresh(t, z.rows, z.bits)
		for _, k := range wrong {
			if got := s.Places(k); len(got) != 0 {
				t.Fatalf("Places of a name of %d bytes: %d", len(k.Name), got)
			}
		}
	}
}

// TestAddAll: of a key that is alone, all counters are its count, and go on together (19.1).
func TestAddAll(t *testing.T) {
	s := fresh(t, 3, 2)
	a := at(t, 2, 0, 1, 2, 3)
	for n := 1; n <= 9; n++ {
		add(t, s, a, n)
		total(t, s, uint64(n))
		counters(t, s, 2, []int{0, n, 0, 0}, []int{0, 0, n, 0}, []int{0, 0, 0, n})
	}
}

// TestAddKinds: keys of all kinds, in sketches of all sizes (19.1).
func TestAddKinds(t *testing.T) {
	for _, z := range sizes {
		for _, k := range kinds {
			s := fresh(t, z.rows, z.bits)
			for n := 1; n <= 4; n++ {
				add(t, s, k, n)
				total(t, s, uint64(n))
			}
		}
	}
}

// TestAddSome: some of its counters are above its count, and stay there until it has come up to them (19.1).
func TestAddSome(t *testing.T) {
	s := fresh(t, 3, 2)
	a, b := at(t, 2, 0, 1, 2, 3), at(t, 2, 0, 1, 0, 0)
	addSome(t, s, b, 3)
	count(t, s, 0, a)
	add(t, s, a, 1)
	counters(t, s, 2, []int{0, 3, 0, 0}, []int{3, 0, 1, 0}, []int{3, 0, 0, 1})
	addSome(t, s, a, 2)
	counters(t, s, 2, []int{0, 3, 0, 0}, []int{3, 0, 3, 0}, []int{3, 0, 0, 3})
	add(t, s, a, 4)
	counters(t, s, 2, []int{0, 4, 0, 0}, []int{3, 0, 4, 0}, []int{3, 0, 0, 4})
	count(t, s, 3, b)
	add(t, s, b, 4)
	counters(t, s, 2, []int{0, 4, 0, 0}, []int{4, 0, 4, 0}, []int{4, 0, 0, 4})
	total(t, s, 8)
}

// TestAddOne: one of its counters alone is its count (19.1).
func TestAddOne(t *testing.T) {
	s := fresh(t, 3, 2)
	a, b, c := at(t, 2, 0, 1, 2, 3), at(t, 2, 0, 1, 0, 3), at(t, 2, 0, 0, 3, 3)
	addSome(t, s, b, 5)
	addSome(t, s, c, 7)
	counters(t, s, 2, []int{7, 5, 0, 0}, []int{5, 0, 0, 7}, []int{0, 0, 0, 7})
	count(t, s, 0, a)
	add(t, s, a, 1)
	counters(t, s, 2, []int{7, 5, 0, 0}, []int{5, 0, 1, 7}, []int{0, 0, 0, 7})
	addSome(t, s, a, 4)
	counters(t, s, 2, []int{7, 5, 0, 0}, []int{5, 0, 5, 7}, []int{0, 0, 0, 7})
	add(t, s, a, 6)
	counters(t, s, 2, []int{7, 6, 0, 0}, []int{5, 0, 6, 7}, []int{0, 0, 0, 7})
	count(t, s, 5, b)
	count(t, s, 7, c)
	add(t, s, b, 6)
	counters(t, s, 2, []int{7, 6, 0, 0}, []int{6, 0, 6, 7}, []int{0, 0, 0, 7})
	total(t, s, 19)
}

// TestAddTogether: keys that share all counters have one count (19.1).
func TestAddTogether(t *testing.T) {
	for _, z := range []size{{1, 0}, {8, 0}, {1, 2}, {3, 2}} {
		s := fresh(t, z.rows, z.bits)
		places := make([]int, z.rows)
		a, b, c := at(t, z.bits, 0, places...), at(t, z.bits, 1, places...), at(t, z.bits, 2, places...)
		for n, k := range []api.Key{a, b, b, c, a, c, c} {
			add(t, s, k, n+1)
			count(t, s, n+1, a, b, c)
			total(t, s, uint64(n+1))
		}
	}
}

// TestAddBeyond: the count stays 255, and the total goes on (19.1).
func TestAddBeyond(t *testing.T) {
	for _, z := range sizes {
		s := fresh(t, z.rows, z.bits)
		for n := 1; n <= 600; n++ {
			add(t, s, named("a"), min(n, 255))
			total(t, s, uint64(n))
		}
	}
}

// TestAddBeyondShared: a counter that is full stays so, while the others go on (19.1).
func TestAddBeyondShared(t *testing.T) {
	s := fresh(t, 3, 2)
	a, b := at(t, 2, 0, 1, 2, 3), at(t, 2, 0, 1, 0, 0)
	addSome(t, s, b, 300)
	for n := 1; n <= 260; n++ {
		add(t, s, a, min(n, 255))
		if n == 254 || n >= 258 {
			m := min(n, 255)
			counters(t, s, 2, []int{0, 255, 0, 0}, []int{255, 0, m, 0}, []int{255, 0, 0, m})
		}
	}
	total(t, s, 560)
}

// TestAddWrong: a key that may not be is refused, and nothing is changed (19.1, R2).
func TestAddWrong(t *testing.T) {
	for _, z := range sizes {
		s := fresh(t, z.rows, z.bits)
		for _, k := range probes[:40] {
			s.Add(k)
		}
		before := sayAll(s)
		for _, k := range wrong {
			if n, err := s.Add(k); n != 0 || err != api.ErrKey {
				t.Fatalf("Add of a name of %d bytes: %d, %d", len(k.Name), n, err)
			}
		}
		if sayAll(s) != before {
			t.Fatal("changed by a key that may not be")
		}
	}
}

// TestCount: of keys that were never added, of such that were, and of such that may not be (19.1).
func TestCount(t *testing.T) {
	s := fresh(t, 3, 2)
	a, b, c := at(t, 2, 0, 1, 2, 3), at(t, 2, 0, 1, 2, 0), at(t, 2, 0, 0, 0, 0)
	count(t, s, 0, a, b, c)
	addSome(t, s, a, 4)
	count(t, s, 4, a, at(t, 2, 1, 1, 2, 3))
	count(t, s, 0, b, c, at(t, 2, 0, 1, 0, 0), at(t, 2, 0, 0, 2, 0), at(t, 2, 0, 0, 0, 3))
	addSome(t, s, c, 2)
	// Never added, and each of its counters is another one's.
	count(t, s, 2, b, at(t, 2, 0, 0, 2, 3), at(t, 2, 0, 1, 0, 3), at(t, 2, 0, 1, 0, 0))
	count(t, s, 4, a)
	count(t, s, 0, at(t, 2, 0, 3, 2, 3))
	for _, z := range sizes {
		s := fresh(t, z.rows, z.bits)
		for _, k := range probes {
			s.Add(k)
		}
		before := sayAll(s)
		count(t, s, 0, wrong...)
		if sayAll(s) != before {
			t.Fatal("changed by Count")
		}
	}
	full := fresh(t, 2, 0)
	addSome(t, full, a, 300)
	count(t, full, 255, probes...)
	count(t, full, 0, wrong...)
}

// TestHalve: noughts, odd and even ones, full ones (19.1).
func TestHalve(t *testing.T) {
	for _, z := range sizes {
		for _, n := range []int{0, 1, 2, 3, 4, 5, 127, 128, 254, 255, 256, 257, 300} {
			s := fresh(t, z.rows, z.bits)
			addSome(t, s, named("a"), n)
			c := min(n, 255)
			for range 10 {
				s.Halve()
				n, c = n/2, c/2
				count(t, s, c, named("a"))
				total(t, s, uint64(n))
			}
			count(t, s, 0, probes...)
			add(t, s, named("a"), 1)
		}
	}
}

// TestHalveEach: every counter of every row, each for itself (19.1).
func TestHalveEach(t *testing.T) {
	s := fresh(t, 2, 2)
	for place, n := range []int{4, 7, 255, 1} {
		addSome(t, s, at(t, 2, 0, place, place), n)
	}
	addSome(t, s, at(t, 2, 0, 3, 0), 2)
	counters(t, s, 2, []int{4, 7, 255, 3}, []int{4, 7, 255, 1})
	total(t, s, 269)
	s.Halve()
	counters(t, s, 2, []int{2, 3, 127, 1}, []int{2, 3, 127, 0})
	total(t, s, 134)
	s.Halve()
	counters(t, s, 2, []int{1, 1, 63, 0}, []int{1, 1, 63, 0})
	total(t, s, 67)
	s.Halve()
	total(t, s, 33)
}

// TestHalveGreat: the first and the last counters of the greatest sketch (19.1).
func TestHalveGreat(t *testing.T) {
	s := fresh(t, 8, 16)
	for i := range 3000 {
		addSome(t, s, numbered(i), 2)
	}
	s.Halve()
	for i := range 3000 {
		count(t, s, 1, numbered(i))
	}
	total(t, s, 3000)
	s.Halve()
	for i := range 3000 {
		count(t, s, 0, numbered(i))
	}
	total(t, s, 1500)
}

// TestTotal: behind Add, of any keys, behind what is refused, behind Halve and Merge (19.1).
func TestTotal(t *testing.T) {
	s := fresh(t, 2, 3)
	total(t, s, 0)
	for i, k := range probes {
		s.Add(k)
		total(t, s, uint64(i+1))
	}
	n := uint64(len(probes))
	s.Add(wrong[0])
	s.Count(named("a"))
	s.Hot(3, probes...)
	s.Better(named("a"), named("b"))
	s.Places(named("a"))
	s.Merge(nil)
	s.Clone().Add(named("a"))
	total(t, s, n)
	both := merge(t, s, s)
	total(t, both, 2*n)
	total(t, s, n)
	both.Halve()
	total(t, both, n)
	s.Halve()
	total(t, s, n/2)
	add(t, s, named("a"), s.Count(named("a"))+1)
	total(t, s, n/2+1)
}

// TestTotalWraps: two sketches' together are meant modulo 2^64 (19.2).
func TestTotalWraps(t *testing.T) {
	s := fresh(t, 1, 0)
	add(t, s, named("a"), 1)
	want := uint64(1)
	for range 63 {
		s = merge(t, s, s)
		s.Add(named("a"))
		want = 2*want + 1
		total(t, s, want)
	}
	total(t, s, math.MaxUint64)
	total(t, merge(t, s, s), math.MaxUint64-1)
	one := fresh(t, 1, 0)
	total(t, merge(t, s, one), math.MaxUint64)
	add(t, one, named("b"), 1)
	total(t, merge(t, s, one), 0)
	total(t, merge(t, one, s), 0)
	add(t, one, named("b"), 2)
	total(t, merge(t, s, one), 1)
	half := s.Clone()
	half.Halve()
	total(t, half, math.MaxInt64)
	add(t, s, named("a"), 255)
	total(t, s, 0)
	count(t, s, 255, named("a"))
}

// TestNil: every call on a nil sketch (19.3).
func TestNil(t *testing.T) {
	var s *sketch.Sketch
	some := busy(t)
	before := sayAll(some)
	for range 2 {
		for _, k := range slices.Concat(wrong, kinds) {
			if n, err := s.Add(k); n != 0 || err != api.ErrArg {
				t.Fatalf("Add: %d, %d", n, err)
			}
			if got := s.Count(k); got != 0 {
				t.Fatalf("Count: %d", got)
			}
			if got := s.Places(k); len(got) != 0 {
				t.Fatalf("Places: %d", got)
			}
			if s.Better(k, named("b")) || s.Better(named("b"), k) || s.Better(k, k) {
				t.Fatal("Better")
			}
		}
		for _, o := range []*sketch.Sketch{nil, s, some} {
			if both, err := s.Merge(o); both != nil || err != api.ErrArg {
				t.Fatalf("Merge: %v, %d", both, err)
			}
		}
		for _, n := range []int{math.MinInt, -1, 0, 1, 5, math.MaxInt} {
			for _, keys := range [][]api.Key{nil, kinds, wrong} {
				if l, err := s.Hot(n, keys...); len(l) != 0 || err != api.ErrArg {
					t.Fatalf("Hot(%d): %v, %d", n, l, err)
				}
			}
		}
		s.Halve()
		total(t, s, 0)
		if twin := s.Clone(); twin != nil {
			t.Fatalf("Clone: %v", twin)
		}
	}
	if sayAll(some) != before {
		t.Fatal("changed by a nil sketch")
	}
}

// TestZero: a sketch that no call gave does no harm (R1).
func TestZero(t *testing.T) {
	some := fresh(t, 1, 0)
	for _, s := range []*sketch.Sketch{new(sketch.Sketch), new(sketch.Sketch).Clone()} {
		for _, k := range slices.Concat(wrong, kinds) {
			s.Add(k)
			s.Count(k)
			s.Places(k)
			s.Better(k, named("b"))
		}
		s.Halve()
		s.Total()
		s.Hot(3, kinds...)
		s.Merge(s)
		s.Merge(some)
		some.Merge(s)
	}
	total(t, some, 0)
}
