package key_test

import (
	"math"
	"strings"
	"testing"

	"convoy/api"
	"convoy/key"
)

func TestBytes(t *testing.T) {
	long := strings.Repeat("k", 64)
	for _, c := range []struct {
		k     api.Key
		bytes string
	}{
		{named(258, "x"), "\x02\x01\x01x"},
		{named(0, ""), "\x00\x00\x00"},
		{named(1, ""), "\x01\x00\x00"},
		{named(256, ""), "\x00\x01\x00"},
		{named(65535, ""), "\xff\xff\x00"},
		{named(65280, "ab"), "\x00\xff\x02ab"},
		{named(128, "\xff\x80\x00"), "\x80\x00\x03\xff\x80\x00"},
		{named(7, long), "\x07\x00\x40" + long},
	} {
		if b, err := key.Bytes(c.k); b != c.bytes || err != api.OK {
			t.Errorf("Bytes(%#v): %#v, %d", c.k, b, err)
		}
	}
	for _, k := range mayNotBe() {
		if b, err := key.Bytes(k); b != "" || err != api.ErrKey {
			t.Errorf("Bytes of a name of %d bytes: %#v, %d", len(k.Name), b, err)
		}
	}
}

func TestTake(t *testing.T) {
	long := strings.Repeat("k", 64)
	for _, c := range []struct {
		s    string
		at   int
		k    api.Key
		next int
	}{
		{"\x02\x01\x01x", 0, named(258, "x"), 4},
		{"\x02\x01\x01xyz", 0, named(258, "x"), 4},
		{"\x00\x00\x00", 0, named(0, ""), 3},
		{"??\x00\x00\x00", 2, named(0, ""), 5},
		{"\x00\x00\x00\x01\x00\x00", 3, named(1, ""), 6},
		{"?\xff\xff\x02ab?", 1, named(65535, "ab"), 6},
		{"\xff\x00\x03\xff\x80\x00", 0, named(255, "\xff\x80\x00"), 6},
		{"\x00\xff\x00\x00", 0, named(65280, ""), 3},
		{"\x00\xff\x00\x00", 1, named(255, ""), 4},
		{"\x07\x00\x40" + long, 0, named(7, long), 67},
		{"\x07\x00\x40" + long + "k", 0, named(7, long), 67},
		{"\x07\x00\x3f" + long, 0, named(7, long[:63]), 66},
	} {
		if k, next, ok := key.Take(c.s, c.at); k != c.k || next != c.next || !ok {
			t.Errorf("Take(%#v, %d): %#v, %d, %v", c.s, c.at, k, next, ok)
		}
	}
}

func TestTakeNothing(t *testing.T) {
	long := strings.Repeat("k", 300)
	for _, c := range []struct {
		s  string
		at int
	}{
		{"", 0}, // ends too early
		{"\x01", 0},
		{"\x01\x00", 0},
		{"\x01\x00\x01", 0},
		{"\x01\x00\x02a", 0},
		{"\x01\x00\x40" + long[:63], 0},
		{"\x01\x00\x00", 1},
		{"\x01\x00\x00", 2},
		{"\x01\x00\x00", 3}, // at the end, and behind it
		{"\x01\x00\x00", 4},
		{"\x01\x00\x00", math.MaxInt},
		{"\x01\x00\x00", math.MaxInt - 1},
		{"\x01\x00\x00", math.MaxInt - 2},
		{"\x01\x00\x00", math.MaxInt - 3},
		{"", 1},
		{"", math.MaxInt},
		{"\x01\x00\x00", -1}, // below 0
		{"\x01\x00\x00", -3},
		{"\x01\x00\x00", math.MinInt},
		{"\x01\x00\x00", math.MinInt + 1},
		{"", -1},
		{"\x01\x00\x41" + long, 0}, // names that are too long
		{"\x01\x00\x80" + long, 0},
		{"\x01\x00\xff" + long, 0},
	} {
		if k, next, ok := key.Take(c.s, c.at); k != (api.Key{}) || next != 0 || ok {
			t.Errorf("Take(%#v, %d): %#v, %d, %v", c.s, c.at, k, next, ok)
		}
	}
}

// TestTakeOfBytes: 2.4, with other bytes around, and no end of a key's bytes cut off.
func TestTakeOfBytes(t *testing.T) {
	for _, k := range mayBe() {
		b, _ := key.Bytes(k)
		if got, next, ok := key.Take(b, 0); got != k || next != len(b) || !ok {
			t.Errorf("Take(%#v, 0): %#v, %d, %v", b, got, next, ok)
		}
		if got, next, ok := key.Take("ahead"+b+"behind", 5); got != k || next != 5+len(b) || !ok {
			t.Errorf("Take(%#v, 5): %#v, %d, %v", b, got, next, ok)
		}
		for end := range len(b) {
			if got, next, ok := key.Take(b[:end], 0); got != (api.Key{}) || next != 0 || ok {
				t.Errorf("Take(%#v, 0): %#v, %d, %v", b[:end], got, next, ok)
			}
		}
	}
}

// TestTakeInTurn takes keys that stand one behind the other.
func TestTakeInTurn(t *testing.T) {
	keys := mayBe()
	var all strings.Builder
	for _, k := range keys {
		b, _ := key.Bytes(k)
		all.WriteString(b)
	}
	at := 0
	for _, k := range keys {
		got, next, ok := key.Take(all.String(), at)
		if got != k || !ok {
			t.Fatalf("at %d: %#v, %v", at, got, ok)
		}
		at = next
	}
	if at != all.Len() {
		t.Error(at, all.Len())
	}
}
