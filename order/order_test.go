package order_test

import (
	"math"
	"slices"
	"strconv"
	"strings"
	"testing"

	"convoy/api"
	"convoy/order"
)

// The calls are those that the chapter lists: a change of one does not compile.
var (
	_ func(int) (*order.Order, api.Errno)                    = order.New
	_ func(*order.Order, api.Key) (api.Key, bool, api.Errno) = (*order.Order).Use
	_ func(*order.Order, api.Key) bool                       = (*order.Order).Touch
	_ func(*order.Order, api.Key) bool                       = (*order.Order).Drop
	_ func(*order.Order, api.Key) bool                       = (*order.Order).Has
	_ func(*order.Order) int                                 = (*order.Order).Len
	_ func(*order.Order) (api.Key, bool)                     = (*order.Order).Oldest
	_ func(*order.Order) func(yield func(api.Key) bool)      = (*order.Order).All
	_ func(*order.Order, int) ([]api.Key, api.Errno)         = (*order.Order).Shrink
	_ func(*order.Order) int                                 = (*order.Order).Most
	_ func(*order.Order) *order.Order                        = (*order.Order).Clone
)

const entries = 65536 // keys that there may be at most

// noMost is numbers that an order may not be of.
var noMost = []int{-1, -2, -entries, math.MinInt, math.MinInt + 1, entries + 1, entries + 2, 2 * entries, math.MaxInt - 1, math.MaxInt}

// named is a key of the space 0.
func named(name string) api.Key { return api.Key{Name: name} }

// keys is a key of the space 0 for each letter.
func keys(letters string) []api.Key {
	var l []api.Key
	for _, letter := range strings.Split(letters, "") {
		l = append(l, named(letter))
	}
	return l
}

// long is a name of n bytes.
func long(n int) string { return strings.Repeat("n", n) }

// noKeys is keys that may not be.
var noKeys = []api.Key{
	named(long(65)), named(long(66)), named(long(1000)), named(strings.Repeat("é", 33)),
	{Space: math.MaxUint16, Name: long(65)},
}

// others is keys that no test uses but as those that are not there.
var others = []api.Key{
	named("other"), {Space: 77, Name: "a"}, {Space: 77}, named("aa"), named("A"), named("a\x00"), named(long(64)),
}

// of makes an order in which the keys of the letters were used, one behind the other.
func of(t *testing.T, most int, letters string) *order.Order {
	t.Helper()
	o, err := order.New(most)
	if o == nil || err != api.OK {
		t.Fatalf("New(%d): %v, %d", most, o, err)
	}
	for _, k := range keys(letters) {
		use(t, o, k)
	}
	return o
}

// use uses a key for which there is room.
func use(t *testing.T, o *order.Order, k api.Key) {
	t.Helper()
	if gone, goes, err := o.Use(k); gone != (api.Key{}) || goes || err != api.OK {
		t.Fatalf("Use(%v): %v, %t, %d, and none goes", k, gone, goes, err)
	}
}

// over uses a key for which another one goes, or it itself.
func over(t *testing.T, o *order.Order, k, want api.Key) {
	t.Helper()
	if gone, goes, err := o.Use(k); gone != want || !goes || err != api.OK {
		t.Fatalf("Use(%v): %v, %t, %d, and %v goes", k, gone, goes, err, want)
	}
}

// all is what All goes over.
func all(o *order.Order) []api.Key {
	var l []api.Key
	for k := range o.All() {
		l = append(l, k)
	}
	return l
}

// same holds all that can be asked of an order against how many there may be, and which there are, the oldest first.
func same(t *testing.T, o *order.Order, most int, want ...api.Key) {
	t.Helper()
	if got := all(o); !slices.Equal(got, want) {
		t.Fatalf("All: %v, not %v", got, want)
	}
	if o.Most() != most || o.Len() != len(want) {
		t.Fatalf("Most, Len: %d, %d, not %d, %d", o.Most(), o.Len(), most, len(want))
	}
	var first api.Key
	if len(want) > 0 {
		first = want[0]
	}
	if oldest, ok := o.Oldest(); oldest != first || ok != (len(want) > 0) {
		t.Fatalf("Oldest: %v, %t, not %v", oldest, ok, first)
	}
	for _, k := range want {
		if !o.Has(k) {
			t.Fatalf("Has(%v): false, and it is there", k)
		}
	}
	for _, k := range slices.Concat(others, noKeys) {
		if o.Has(k) && !slices.Contains(want, k) {
			t.Fatalf("Has(%v): true, and it is not there", k)
		}
	}
}

// sameLetters is same, of keys of the space 0.
func sameLetters(t *testing.T, o *order.Order, most int, letters string) {
	t.Helper()
	same(t, o, most, keys(letters)...)
	for _, k := range keys("abcdefg") {
		if o.Has(k) != strings.Contains(letters, k.Name) {
			t.Fatalf("Has(%v): %t, and there are %q", k, o.Has(k), letters)
		}
	}
}

// TestNew: an order is of 0 to MaxEntries, and has no keys (9.1).
func TestNew(t *testing.T) {
	if api.MaxEntries != entries {
		t.Fatalf("MaxEntries: %d", api.MaxEntries)
	}
	for _, most := range []int{0, 1, 2, 3, 1000, entries - 1, entries} {
		sameLetters(t, of(t, most, ""), most, "")
	}
	for _, most := range noMost {
		if o, err := order.New(most); o != nil || err != api.ErrArg {
			t.Errorf("New(%d): %v, %d", most, o, err)
		}
	}
}

// TestUse: a new key is the one that was used last, and so is one that is there already (9.1).
func TestUse(t *testing.T) {
	o := of(t, 4, "abc")
	sameLetters(t, o, 4, "abc")
	for _, step := range []struct{ used, then string }{
		{"a", "bca"}, {"c", "bac"}, {"c", "bac"}, {"b", "acb"}, {"d", "acbd"},
		{"a", "cbda"}, {"b", "cdab"}, {"d", "cabd"}, {"d", "cabd"},
	} {
		use(t, o, named(step.used))
		sameLetters(t, o, 4, step.then)
	}
}

// TestUseOver: at most, a new key has the oldest one go; one that is there has none go (9.1).
func TestUseOver(t *testing.T) {
	o := of(t, 3, "abc")
	over(t, o, named("d"), named("a"))
	sameLetters(t, o, 3, "bcd")
	use(t, o, named("b"))
	sameLetters(t, o, 3, "cdb")
	use(t, o, named("d"))
	use(t, o, named("d"))
	sameLetters(t, o, 3, "cbd")
	over(t, o, named("a"), named("c"))
	over(t, o, named("c"), named("b"))
	sameLetters(t, o, 3, "dac")
	if !o.Drop(named("a")) {
		t.Error("Drop(a): false")
	}
	use(t, o, named("e"))
	over(t, o, named("f"), named("d"))
	sameLetters(t, o, 3, "cef")
}

// TestUseOfOne: of 1, the one ahead goes (9.1).
func TestUseOfOne(t *testing.T) {
	o := of(t, 1, "a")
	use(t, o, named("a"))
	sameLetters(t, o, 1, "a")
	over(t, o, named("b"), named("a"))
	sameLetters(t, o, 1, "b")
	over(t, o, named("a"), named("b"))
	sameLetters(t, o, 1, "a")
}

// TestUseOfNone: of 0, each key goes itself (9.1).
func TestUseOfNone(t *testing.T) {
	o := of(t, 0, "")
	for _, k := range []api.Key{named("a"), named("a"), {}, {Space: 9, Name: "b"}, named(long(64))} {
		over(t, o, k, k)
		sameLetters(t, o, 0, "")
		if o.Touch(k) || o.Drop(k) || o.Has(k) {
			t.Errorf("%v is there, of 0", k)
		}
	}
}

// TestZeroKey: the key of all noughts is one like others: beside true it went, beside false it is nothing (9.1, 9.2).
func TestZeroKey(t *testing.T) {
	o := of(t, 2, "")
	use(t, o, api.Key{})
	same(t, o, 2, api.Key{})
	use(t, o, named("a"))
	same(t, o, 2, api.Key{}, named("a"))
	if !o.Touch(api.Key{}) {
		t.Error("Touch of the zero key: false")
	}
	same(t, o, 2, named("a"), api.Key{})
	over(t, o, named("b"), named("a"))
	over(t, o, named("c"), api.Key{})
	sameLetters(t, o, 2, "bc")
	use(t, o, named("b"))
	over(t, o, api.Key{}, named("c"))
	if gone, err := o.Shrink(0); !slices.Equal(gone, []api.Key{named("b"), {}}) || err != api.OK {
		t.Errorf("Shrink(0): %v, %d", gone, err)
	}
}

// TestUseKeysApart: keys are one only if both their spaces and their names are (9.1).
func TestUseKeysApart(t *testing.T) {
	apart := []api.Key{
		{}, {Space: 1}, {Name: "1"}, {Space: 1, Name: "1"}, {Space: 11}, {Name: "11"}, {Name: "a"}, {Name: "A"},
		{Name: "a\x00"}, {Name: "\x00a"}, {Name: "\xff"}, {Name: "\xfe"}, {Name: "é"}, {Name: "e\u0301"},
		{Space: math.MaxUint16, Name: "a"}, {Name: long(64)}, {Name: long(63)}, {Space: 1, Name: long(64)},
	}
	o := of(t, len(apart), "")
	for i, k := range apart {
		use(t, o, k)
		same(t, o, len(apart), apart[:i+1]...)
	}
	for _, k := range apart {
		use(t, o, k)
	}
	same(t, o, len(apart), apart...)
}

// TestUseWrong: a key that may not be is told with the error of key.Check, and nothing is changed (9.1).
func TestUseWrong(t *testing.T) {
	for _, most := range []int{0, 1, 2, 3, entries} {
		o := of(t, most, "abc"[:min(most, 3)])
		for _, k := range noKeys {
			if gone, goes, err := o.Use(k); gone != (api.Key{}) || goes || err != api.ErrKey {
				t.Errorf("of %d, Use of %d bytes: %v, %t, %d", most, len(k.Name), gone, goes, err)
			}
			if o.Touch(k) || o.Drop(k) || o.Has(k) {
				t.Errorf("of %d, a key of %d bytes is there", most, len(k.Name))
			}
			sameLetters(t, o, most, "abc"[:min(most, 3)])
		}
	}
}

// TestUseLongest: a name of MaxName bytes may be (9.1).
func TestUseLongest(t *testing.T) {
	o := of(t, 1, "")
	use(t, o, named(long(64)))
	same(t, o, 1, named(long(64)))
	over(t, o, api.Key{Space: 1, Name: long(64)}, named(long(64)))
}

// TestTouch: a key that is there becomes the one that was used last (9.1).
func TestTouch(t *testing.T) {
	for _, step := range []struct{ from, touched, then string }{
		{"a", "a", "a"}, {"ab", "a", "ba"}, {"ab", "b", "ab"}, {"abc", "a", "bca"}, {"abc", "b", "acb"},
		{"abc", "c", "abc"}, {"abcde", "b", "acdeb"}, {"abcde", "c", "abdec"}, {"abcde", "d", "abced"},
	} {
		o := of(t, 5, step.from)
		for range 2 {
			if !o.Touch(named(step.touched)) {
				t.Fatalf("Touch(%s): false", step.touched)
			}
			sameLetters(t, o, 5, step.then)
		}
		// Those behind it are still linked as All tells them.
		if gone, err := o.Shrink(0); !slices.Equal(gone, keys(step.then)) || err != api.OK {
			t.Fatalf("Shrink(0): %v, %d, not %s", gone, err, step.then)
		}
	}
}

// TestTouchNone: touching a key that is not there changes nothing (9.1).
func TestTouchNone(t *testing.T) {
	o := of(t, 2, "")
	if o.Touch(named("a")) || o.Touch(api.Key{}) {
		t.Error("Touch, and there is none: true")
	}
	sameLetters(t, o, 2, "")
	use(t, o, named("a"))
	use(t, o, named("b"))
	over(t, o, named("c"), named("a"))
	o.Drop(named("b"))
	for _, k := range slices.Concat(keys("abd"), others, noKeys, []api.Key{{}}) {
		if o.Touch(k) {
			t.Errorf("Touch(%v): true", k)
		}
		sameLetters(t, o, 2, "c")
	}
}

// TestDrop: a key that is there is there no more, wherever it stood (9.1).
func TestDrop(t *testing.T) {
	for _, step := range []struct{ from, dropped, then string }{
		{"a", "a", ""}, {"ab", "a", "b"}, {"ab", "b", "a"}, {"abc", "a", "bc"}, {"abc", "b", "ac"}, {"abc", "c", "ab"},
		{"abcde", "b", "acde"}, {"abcde", "c", "abde"}, {"abcde", "d", "abce"},
	} {
		o := of(t, 5, step.from)
		k := named(step.dropped)
		if !o.Drop(k) {
			t.Fatalf("Drop(%s): false", step.dropped)
		}
		sameLetters(t, o, 5, step.then)
		if o.Drop(k) || o.Touch(k) {
			t.Fatalf("%s was dropped, and is there", step.dropped)
		}
		sameLetters(t, o, 5, step.then)
		use(t, o, k)
		sameLetters(t, o, 5, step.then+step.dropped)
	}
}

// TestDropAll: what was emptied is used as a new one is (9.1).
func TestDropAll(t *testing.T) {
	for _, way := range []string{"abc", "acb", "bac", "bca", "cab", "cba"} {
		o := of(t, 3, "abc")
		for i, k := range keys(way) {
			if !o.Drop(k) || o.Len() != 2-i {
				t.Fatalf("Drop(%v), %d of %s: false, or there are %d", k, i, way, o.Len())
			}
		}
		sameLetters(t, o, 3, "")
		for _, k := range keys("dab") {
			use(t, o, k)
		}
		sameLetters(t, o, 3, "dab")
		over(t, o, named("c"), named("d"))
	}
}

// TestDropNone: dropping a key that is not there changes nothing (9.1).
func TestDropNone(t *testing.T) {
	o := of(t, 2, "")
	if o.Drop(named("a")) || o.Drop(api.Key{}) {
		t.Error("Drop, and there is none: true")
	}
	use(t, o, named("a"))
	use(t, o, named("b"))
	over(t, o, named("c"), named("a"))
	for _, k := range slices.Concat(keys("ad"), others, noKeys, []api.Key{{}}) {
		if o.Drop(k) {
			t.Errorf("Drop(%v): true", k)
		}
		sameLetters(t, o, 2, "bc")
	}
}

// TestOldest: it is told, and is not used by that (9.2).
func TestOldest(t *testing.T) {
	o := of(t, 2, "ab")
	for range 3 {
		if oldest, ok := o.Oldest(); oldest != named("a") || !ok {
			t.Errorf("Oldest: %v, %t", oldest, ok)
		}
	}
	over(t, o, named("c"), named("a"))
	sameLetters(t, o, 2, "bc")
}

// TestAskedIsNotUsed: Has and All don't use what they tell (9.2).
func TestAskedIsNotUsed(t *testing.T) {
	o := of(t, 3, "abc")
	for range 2 {
		o.Has(named("a"))
		all(o)
		o.Clone()
	}
	over(t, o, named("d"), named("a"))
	sameLetters(t, o, 3, "bcd")
}

// TestAllLeftEarly: who stops is told no more, and may range again from the oldest on (9.2).
func TestAllLeftEarly(t *testing.T) {
	o := of(t, 5, "abcde")
	over := o.All()
	for n := 1; n <= 5; n++ {
		var got []api.Key
		for k := range over {
			got = append(got, k)
			if len(got) == n {
				break
			}
		}
		if !slices.Equal(got, keys("abcde")[:n]) {
			t.Errorf("the first %d: %v", n, got)
		}
	}
	sameLetters(t, o, 5, "abcde")
}

// TestAllAsTheyAreThen: what is told is what is there when it is ranged over, not when All was called (9.2).
func TestAllAsTheyAreThen(t *testing.T) {
	o := of(t, 3, "")
	over := o.All()
	told := func(want string) {
		t.Helper()
		for range 2 {
			if got := slices.Collect(over); !slices.Equal(got, keys(want)) {
				t.Errorf("All: %v, not %s", got, want)
			}
		}
	}
	told("")
	for _, k := range keys("abc") {
		use(t, o, k)
	}
	told("abc")
	o.Touch(named("a"))
	told("bca")
	o.Drop(named("c"))
	told("ba")
	o.Use(named("d"))
	o.Use(named("e"))
	told("ade")
	o.Shrink(1)
	told("e")
}

// TestAllChangedOnTheWay: who changes the order while ranging over it ends, and is told each key once, as they were at first (9.2).
func TestAllChangedOnTheWay(t *testing.T) {
	for name, change := range map[string]func(o *order.Order, k api.Key){
		"Touch":      func(o *order.Order, k api.Key) { o.Touch(k) },
		"Use":        func(o *order.Order, k api.Key) { o.Use(k) },
		"Use of new": func(o *order.Order, k api.Key) { o.Use(named(k.Name + "x")) },
		"Drop":       func(o *order.Order, k api.Key) { o.Drop(k) },
		"Drop of c":  func(o *order.Order, k api.Key) { o.Drop(named("c")) },
		"Shrink":     func(o *order.Order, k api.Key) { o.Shrink(0) },
	} {
		o := of(t, 4, "abcd")
		var got []api.Key
		for k := range o.All() {
			if got = append(got, k); len(got) > 4 {
				break
			}
			change(o, k)
		}
		if !slices.Equal(got, keys("abcd")) {
			t.Errorf("%s on the way: %v", name, got)
		}
	}
}

// TestAllWithin: one may range over an order within a range over it (9.2).
func TestAllWithin(t *testing.T) {
	o := of(t, 3, "abc")
	var got []api.Key
	for k := range o.All() {
		got = append(got, k)
		got = append(got, all(o)...)
	}
	if !slices.Equal(got, keys("aabcbabccabc")) {
		t.Errorf("ranged over within: %v", got)
	}
}

// TestShrink: there may be so many from then on, and those that go are told, the oldest first (9.2).
func TestShrink(t *testing.T) {
	for _, step := range []struct {
		most, to int
		gone     string
		then     string
	}{
		{5, 5, "", "abcde"}, {5, 6, "", "abcde"}, {5, entries, "", "abcde"}, {5, 4, "a", "bcde"}, {5, 3, "ab", "cde"},
		{5, 1, "abcd", "e"}, {5, 0, "abcde", ""}, {9, 5, "", "abcde"}, {9, 7, "", "abcde"}, {9, 4, "a", "bcde"}, {9, 0, "abcde", ""},
	} {
		o := of(t, step.most, "abcde")
		if gone, err := o.Shrink(step.to); !slices.Equal(gone, keys(step.gone)) || err != api.OK {
			t.Errorf("of %d, Shrink(%d): %v, %d", step.most, step.to, gone, err)
		}
		sameLetters(t, o, step.to, step.then)
		if gone, err := o.Shrink(step.to); len(gone) != 0 || err != api.OK {
			t.Errorf("of %d, Shrink(%d) again: %v, %d", step.most, step.to, gone, err)
		}
		sameLetters(t, o, step.to, step.then)
	}
}

// TestShrinkByUse: the oldest is the one that was used the longest time ago, not the one that came first (9.2).
func TestShrinkByUse(t *testing.T) {
	o := of(t, 5, "abcdea")
	o.Touch(named("c"))
	if gone, err := o.Shrink(2); !slices.Equal(gone, keys("bde")) || err != api.OK {
		t.Errorf("Shrink(2): %v, %d", gone, err)
	}
	sameLetters(t, o, 2, "ac")
}

// TestUseBehindShrink: Use keeps to what was laid down last (9.2).
func TestUseBehindShrink(t *testing.T) {
	o := of(t, 4, "abc")
	o.Shrink(2)
	use(t, o, named("b"))
	over(t, o, named("a"), named("c"))
	sameLetters(t, o, 2, "ba")
	o.Shrink(3)
	use(t, o, named("d"))
	over(t, o, named("e"), named("b"))
	sameLetters(t, o, 3, "ade")
	o.Shrink(0)
	over(t, o, named("a"), named("a"))
	sameLetters(t, o, 0, "")
	o.Shrink(1)
	use(t, o, named("f"))
	over(t, o, named("g"), named("f"))
	sameLetters(t, o, 1, "g")
}

// TestShrinkWrong: outside what New takes nothing is changed (9.2).
func TestShrinkWrong(t *testing.T) {
	for _, most := range noMost {
		o := of(t, 3, "abc")
		if gone, err := o.Shrink(most); len(gone) != 0 || err != api.ErrArg {
			t.Errorf("Shrink(%d): %v, %d", most, gone, err)
		}
		sameLetters(t, o, 3, "abc")
		over(t, o, named("d"), named("a"))
	}
}

// TestNil: what a nil order answers (9.3).
func TestNil(t *testing.T) {
	var o *order.Order
	for range 2 {
		for _, k := range slices.Concat(keys("ab"), []api.Key{{}, {Space: 4, Name: long(64)}}, noKeys) {
			if gone, goes, err := o.Use(k); gone != (api.Key{}) || goes || err != api.ErrArg {
				t.Errorf("Use(%v): %v, %t, %d", k, gone, goes, err)
			}
			if o.Touch(k) || o.Drop(k) || o.Has(k) {
				t.Errorf("Touch, Drop or Has of %v: true", k)
			}
		}
		for _, most := range append([]int{0, 1, 2, entries}, noMost...) {
			if gone, err := o.Shrink(most); len(gone) != 0 || err != api.ErrArg {
				t.Errorf("Shrink(%d): %v, %d", most, gone, err)
			}
		}
		if clone := o.Clone(); clone != nil {
			t.Errorf("Clone: %v", clone)
		}
		same(t, o, 0)
	}
}

// TestMost: there may be MaxEntries keys, and one more has the oldest go (9.1).
func TestMost(t *testing.T) {
	o := of(t, entries, "")
	var want []api.Key
	for i := range entries {
		k := api.Key{Space: uint16(i % 3), Name: strconv.Itoa(i)}
		want = append(want, k)
		use(t, o, k)
	}
	same(t, o, entries, want...)
	// Each is used anew in a time that does not grow, or this would last.
	for i := range want {
		if i%2 == 0 {
			use(t, o, want[i])
		} else if !o.Touch(want[i]) {
			t.Fatalf("Touch(%v): false", want[i])
		}
	}
	same(t, o, entries, want...)
	over(t, o, named("a"), want[0])
	same(t, o, entries, append(want[1:], named("a"))...)
	gone, err := o.Clone().Shrink(1)
	if !slices.Equal(gone, want[1:]) || err != api.OK {
		t.Errorf("Shrink(1) tells %d keys, %d", len(gone), err)
	}
	for _, k := range slices.Backward(want[1:]) {
		if !o.Drop(k) {
			t.Fatalf("Drop(%v): false", k)
		}
	}
	same(t, o, entries, named("a"))
}
