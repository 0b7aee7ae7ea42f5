package key_test

import (
	"cmp"
	"math/rand"
	"slices"
	"strings"
	"testing"

	"convoy/api"
	"convoy/key"
)

// The signatures that the chapter lists: a change of one does not compile.
var (
	_ func(api.Key) api.Errno                 = key.Check
	_ func(api.Key, api.Key) int              = key.Compare
	_ func(api.Key) (string, api.Errno)       = key.Text
	_ func(string) (api.Key, int, api.Errno)  = key.Parse
	_ func(api.Key) (string, api.Errno)       = key.Bytes
	_ func(string, int) (api.Key, int, bool)  = key.Take
	_ func(api.Key) uint64                    = key.Hash
	_ func(k api.Key, n int) (int, api.Errno) = key.Part
	_ func([]api.Key) []api.Key               = key.Sorted
	_ func(...api.Key) []api.Key              = key.Unlike
	_ func([]api.Key) []int                   = key.Count
)

func named(space uint16, name string) api.Key { return api.Key{Space: space, Name: name} }

// everyByte is a text of the bytes 0 to 255, cut into names that may be.
func everyByte() []string {
	all := make([]byte, 256)
	for i := range all {
		all[i] = byte(i)
	}
	var names []string
	for piece := range slices.Chunk(all, api.MaxName) {
		names = append(names, string(piece))
	}
	return names
}

// mayBe are keys that may be: the edges of spaces and of names' lengths, colons, digits, and each byte once.
func mayBe() []api.Key {
	names := []string{
		"", "a", "b", "ab", "a:b", ":", "::", ":a", "a:", "0", "00", "7", "-1", " ", "\x00", "\x00\x00", "\x7f", "\x80", "\xff", "\xff\xff",
		"é", "a\xffb", strings.Repeat("k", 63), strings.Repeat("k", 64), strings.Repeat("\xff", 64),
	}
	names = append(names, everyByte()...)
	var keys []api.Key
	for _, space := range []uint16{0, 1, 2, 7, 9, 10, 99, 100, 255, 256, 257, 258, 6553, 6554, 9999, 10000, 32767, 32768, 65279, 65280, 65534, 65535} {
		for _, name := range names {
			keys = append(keys, named(space, name))
		}
	}
	return keys
}

// mayNotBe are keys with names that are too long.
func mayNotBe() []api.Key {
	var keys []api.Key
	for _, size := range []int{65, 66, 127, 128, 255, 256, 257, 256 + 64, 1000, 65536, 65537} {
		keys = append(keys, named(0, strings.Repeat("k", size)), named(65535, strings.Repeat("\x00", size)))
	}
	return keys
}

func TestCheck(t *testing.T) {
	for _, k := range mayBe() {
		if err := key.Check(k); err != api.OK {
			t.Errorf("Check(%#v): %d", k, err)
		}
	}
	for _, k := range mayNotBe() {
		if err := key.Check(k); err != api.ErrKey {
			t.Errorf("Check of a name of %d bytes: %d", len(k.Name), err)
		}
	}
	if api.ErrKey != 20 {
		t.Error(api.ErrKey)
	}
}

func TestCompare(t *testing.T) {
	inOrder := []api.Key{
		named(0, ""), named(0, "\x00"), named(0, "\x00\x00"), named(0, "\x01"), named(0, "0"), named(0, "10"), named(0, "9"), named(0, "B"),
		named(0, "a"), named(0, "a\x00"), named(0, "aa"), named(0, "ab"), named(0, "b"), named(0, "\x7f"), named(0, "\x80"), named(0, "é"), named(0, "\xff"), named(0, "\xff\xff"),
		named(0, strings.Repeat("\xff", 64)), named(0, strings.Repeat("\xff", 65)), named(0, strings.Repeat("\xff", 300)),
		named(1, ""), named(1, "b"), named(2, ""), named(2, "a"), named(10, ""), named(255, "z"), named(256, "a"), named(32767, ""), named(32768, ""), named(65535, ""), named(65535, "\xff"),
	}
	for i, a := range inOrder {
		for j, b := range inOrder {
			if c := key.Compare(a, b); c != cmp.Compare(i, j) {
				t.Errorf("Compare(%#v, %#v): %d", a, b, c)
			}
		}
	}
}

// before is the order of the chapter, told without the program's own means.
func before(a, b api.Key) bool {
	if a.Space != b.Space {
		return a.Space < b.Space
	}
	for i := 0; i < len(a.Name) && i < len(b.Name); i++ {
		if a.Name[i] != b.Name[i] {
			return a.Name[i] < b.Name[i]
		}
	}
	return len(a.Name) < len(b.Name)
}

// lists are lists of keys with some that stand in them more than once.
func lists() [][]api.Key {
	from := append(mayBe(), mayNotBe()...)
	r := rand.New(rand.NewSource(2))
	all := [][]api.Key{nil, {}, {from[0]}, {from[0], from[0]}, from}
	for size := range 60 {
		var l []api.Key
		for range size {
			l = append(l, from[r.Intn(1+r.Intn(len(from)))])
		}
		all = append(all, l)
	}
	return all
}

func TestSorted(t *testing.T) {
	a, b, c := named(1, "b"), named(2, "a"), named(1, "a")
	if l := key.Sorted([]api.Key{b, a, c, b, a}); !slices.Equal(l, []api.Key{c, a, a, b, b}) {
		t.Error(l)
	}
	for _, l := range lists() {
		got := key.Sorted(l)
		if len(got) != len(l) {
			t.Fatalf("of %d keys: %d", len(l), len(got))
		}
		for i := 1; i < len(got); i++ {
			if before(got[i], got[i-1]) {
				t.Fatalf("%#v ahead of %#v", got[i-1], got[i])
			}
		}
		for _, k := range l {
			if often(got, k) != often(l, k) {
				t.Fatalf("%#v: %d times", k, often(got, k))
			}
		}
	}
}

func often(l []api.Key, k api.Key) int {
	n := 0
	for _, x := range l {
		if x == k {
			n++
		}
	}
	return n
}

func TestUnlikeAndCount(t *testing.T) {
	x, y, z := named(1, "b"), named(2, "a"), named(1, "")
	for _, c := range []struct {
		l, unlike []api.Key
		counts    []int
	}{
		{nil, nil, nil},
		{[]api.Key{}, nil, nil},
		{[]api.Key{x}, []api.Key{x}, []int{1}},
		{[]api.Key{x, x}, []api.Key{x}, []int{2}},
		{[]api.Key{x, y, x}, []api.Key{x, y}, []int{2, 1}},
		{[]api.Key{y, x, x}, []api.Key{y, x}, []int{1, 2}},
		{[]api.Key{y, z, x, z, z, y}, []api.Key{y, z, x}, []int{2, 3, 1}},
		{[]api.Key{named(1, ""), named(2, ""), named(0, "")}, []api.Key{named(1, ""), named(2, ""), named(0, "")}, []int{1, 1, 1}},
		{[]api.Key{named(0, "a"), named(0, "A"), named(0, "a\x00")}, []api.Key{named(0, "a"), named(0, "A"), named(0, "a\x00")}, []int{1, 1, 1}},
	} {
		if l := key.Unlike(c.l...); !slices.Equal(l, c.unlike) {
			t.Errorf("Unlike(%#v): %#v", c.l, l)
		}
		if l := key.Count(c.l); !slices.Equal(l, c.counts) {
			t.Errorf("Count(%#v): %d", c.l, l)
		}
	}
	if l := key.Unlike(); len(l) != 0 {
		t.Error(l)
	}
}

// TestUnlikeAndCountOfMany holds both against lists that are gone through again and again.
func TestUnlikeAndCountOfMany(t *testing.T) {
	for _, l := range lists() {
		var unlike []api.Key
		var counts []int
		for _, k := range l {
			if !slices.Contains(unlike, k) {
				unlike = append(unlike, k)
				counts = append(counts, often(l, k))
			}
		}
		if got := key.Unlike(l...); !slices.Equal(got, unlike) {
			t.Fatalf("Unlike(%#v): %#v", l, got)
		}
		if got := key.Count(l); !slices.Equal(got, counts) {
			t.Fatalf("Count(%#v): %d", l, got)
		}
	}
}

// TestListsStay tells that what is handed in stays as it was, spare room too, and that no answer shares memory with it (R4).
func TestListsStay(t *testing.T) {
	x, y, z := named(3, "x"), named(2, "y"), named(1, "z")
	for _, size := range []int{0, 1, 3, 4} {
		room := []api.Key{x, y, z, x, named(0, "spare"), named(0, "room")}
		same := slices.Clone(room)
		for _, answer := range [][]api.Key{key.Sorted(room[:size]), key.Unlike(room[:size]...)} {
			answer = answer[:cap(answer)]
			for i := range answer {
				answer[i] = named(9, "other")
			}
		}
		key.Count(room[:size])
		if !slices.Equal(room, same) {
			t.Errorf("of %d keys: %#v", size, room)
		}
	}
}

// TestAnswersAreNew tells that what is done to an answer is not seen in the next one (R4, R5).
func TestAnswersAreNew(t *testing.T) {
	l := []api.Key{named(3, "x"), named(2, "y"), named(3, "x")}
	sorted, unlike, counts := key.Sorted(l), key.Unlike(l...), key.Count(l)
	clear(sorted)
	clear(unlike)
	clear(counts)
	if got := key.Sorted(l); !slices.Equal(got, []api.Key{l[1], l[0], l[0]}) {
		t.Error(got)
	}
	if got := key.Unlike(l...); !slices.Equal(got, []api.Key{l[0], l[1]}) {
		t.Error(got)
	}
	if got := key.Count(l); !slices.Equal(got, []int{2, 1}) {
		t.Error(got)
	}
}
