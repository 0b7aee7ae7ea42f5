package snapshot_test

import (
	"math"
	"math/big"
	"math/rand"
	"strings"
	"testing"

	"convoy/snapshot"
)

// told is numbers and their bytes.
var told = []struct {
	x uint64
	s string
}{
	{0, "\x00"},
	{1, "\x01"},
	{126, "\x7e"},
	{127, "\x7f"},
	{128, "\x80\x01"},
	{129, "\x81\x01"},
	{255, "\xff\x01"},
	{256, "\x80\x02"},
	{300, "\xac\x02"},
	{16383, "\xff\x7f"},
	{16384, "\x80\x80\x01"},
	{1 << 56, "\x80\x80\x80\x80\x80\x80\x80\x80\x01"},
	{maxTime, "\x80\x80\x80\x80\x80\x80\x80\x80\x40"},
	{most, "\xff\xff\xff\xff\xff\xff\xff\xff\x7f"},
	{1 << 63, "\x80\x80\x80\x80\x80\x80\x80\x80\x80\x01"},
	{whole - 1, "\xfe\xff\xff\xff\xff\xff\xff\xff\xff\x01"},
	{whole, "\xff\xff\xff\xff\xff\xff\xff\xff\xff\x01"},
}

// TestNumber: the edges of each length (20.1).
func TestNumber(t *testing.T) {
	for _, x := range told {
		if got := snapshot.Number(x.x); got != x.s {
			t.Errorf("Number(%d): %q, not %q", x.x, got, x.s)
		}
	}
	for n := range uint(64) {
		for _, x := range []uint64{1 << n, 1<<n - 1, 1<<n + 1} {
			if got, want := snapshot.Number(x), numberByHand(new(big.Int).SetUint64(x)); got != want {
				t.Errorf("Number(%d): %q, not %q", x, got, want)
			}
		}
	}
}

// takes looks that a number stands at a place.
func takes(t *testing.T, s string, at int, want uint64, next int) {
	t.Helper()
	if x, behind, ok := snapshot.TakeNumber(s, at); x != want || behind != next || !ok {
		t.Errorf("TakeNumber(%q, %d): %d, %d, %t, not %d, %d", s, at, x, behind, ok, want, next)
	}
}

// takesNone looks that no number stands at a place.
func takesNone(t *testing.T, s string, at int) {
	t.Helper()
	if x, behind, ok := snapshot.TakeNumber(s, at); x != 0 || behind != 0 || ok {
		t.Errorf("TakeNumber(%q, %d): %d, %d, %t", s, at, x, behind, ok)
	}
}

// TestTakeNumber: with bytes ahead and behind, at each place (20.1).
func TestTakeNumber(t *testing.T) {
	for _, x := range told {
		takes(t, x.s, 0, x.x, len(x.s))
		for _, behind := range []string{"\x00", "\x01", "\x7f", "\x80", "\xff", "\xff\xff\x01"} {
			takes(t, x.s+behind, 0, x.x, len(x.s))
			takes(t, "\xff\x80\x00"+x.s+behind, 3, x.x, 3+len(x.s))
		}
	}
	takes(t, "\x05\x80\x01\x00", 0, 5, 1)
	takes(t, "\x05\x80\x01\x00", 1, 128, 3)
	takes(t, "\x05\x80\x01\x00", 2, 1, 3)
	takes(t, "\x05\x80\x01\x00", 3, 0, 4)
}

// TestTakeNumberPlaces: none stands below 0, at the end, nor behind it (20.1).
func TestTakeNumberPlaces(t *testing.T) {
	for _, s := range []string{"", "\x05", "\xac\x02", "\x01\x02\x03"} {
		for _, at := range []int{-1, -2, math.MinInt, len(s), len(s) + 1, len(s) + 2, len(s) + 100, math.MaxInt - 1, math.MaxInt} {
			takesNone(t, s, at)
		}
	}
}

// TestTakeNumberCut: bytes that are cut off are none (20.1).
func TestTakeNumberCut(t *testing.T) {
	for _, x := range told {
		for size := range len(x.s) {
			takesNone(t, x.s[:size], 0)
			takesNone(t, "\x01"+x.s[:size], 1)
		}
	}
	for size := range 40 {
		takesNone(t, strings.Repeat("\x80", size), 0)
		takesNone(t, strings.Repeat("\xff", size), 0)
	}
}

// TestTakeNumberMore: more bytes than needed, and more than there may be, are none (20.1).
func TestTakeNumberMore(t *testing.T) {
	for size := 1; size < 30; size++ {
		takesNone(t, strings.Repeat("\x80", size)+"\x00", 0)
		takesNone(t, strings.Repeat("\xff", size)+"\x00", 0)
		takesNone(t, "\x85"+strings.Repeat("\x80", size)+"\x00\x01", 0)
	}
	for size := 10; size < 30; size++ {
		for last := range 128 {
			takesNone(t, strings.Repeat("\x80", size)+string([]byte{byte(last)}), 0)
			takesNone(t, strings.Repeat("\xff", size)+string([]byte{byte(last)}), 0)
		}
	}
}

// TestTakeNumberAbove: one above 2^64 - 1 is none (20.1).
func TestTakeNumberAbove(t *testing.T) {
	for last := 2; last < 128; last++ {
		takesNone(t, strings.Repeat("\x80", 9)+string([]byte{byte(last)}), 0)
		takesNone(t, strings.Repeat("\xff", 9)+string([]byte{byte(last)}), 0)
	}
	takesNone(t, numberByHand(word), 0)
	for n := uint(64); n < 140; n++ {
		takesNone(t, numberByHand(pow(n)), 0)
		takesNone(t, numberByHand(new(big.Int).Add(pow(n), big.NewInt(5))), 0)
	}
}

// TestSign: 0, 1, -1, the greatest and the least (20.1).
func TestSign(t *testing.T) {
	tests := []struct {
		n int64
		x uint64
	}{
		{0, 0}, {-1, 1}, {1, 2}, {-2, 3}, {2, 4}, {-64, 127}, {64, 128}, {-65, 129}, {150, 300},
		{maxTime, 1 << 63}, {-maxTime, 1<<63 - 1}, {-maxTime - 1, 1<<63 + 1},
		{most, whole - 1}, {least, whole}, {least + 1, whole - 2},
	}
	for _, x := range tests {
		if got := snapshot.Sign(x.n); got != x.x {
			t.Errorf("Sign(%d): %d, not %d", x.n, got, x.x)
		}
		if got := snapshot.Unsign(x.x); got != x.n {
			t.Errorf("Unsign(%d): %d, not %d", x.x, got, x.n)
		}
	}
}

// TestNumbersByLot: numbers and signs there and back, of each length, by hand and by the program (20.1, 20.5).
func TestNumbersByLot(t *testing.T) {
	lot := rand.New(rand.NewSource(1))
	for range 100000 {
		x := lot.Uint64() >> lot.Intn(64)
		s := snapshot.Number(x)
		if want := numberByHand(new(big.Int).SetUint64(x)); s != want {
			t.Fatalf("Number(%d): %q, not %q", x, s, want)
		}
		takes(t, s, 0, x, len(s))
		takes(t, "ahead"+s+"behind", 5, x, 5+len(s))
		n := int64(lot.Uint64()) >> lot.Intn(64)
		if got, want := snapshot.Sign(n), signByHand(n).Uint64(); got != want {
			t.Fatalf("Sign(%d): %d, not %d", n, got, want)
		}
		if got := snapshot.Unsign(snapshot.Sign(n)); got != n {
			t.Fatalf("Unsign of Sign(%d): %d", n, got)
		}
		if got := snapshot.Sign(snapshot.Unsign(x)); got != x {
			t.Fatalf("Sign of Unsign(%d): %d", x, got)
		}
	}
}

// TestTakeByLot: whatever bytes there are, a number stands there just where they are those of one (20.1).
func TestTakeByLot(t *testing.T) {
	lot := rand.New(rand.NewSource(2))
	w := saw{}
	pick := "\x00\x00\x01\x01\x02\x7f\x80\x80\x80\xff\xff\xff\xff\xfe\x81"
	for range 200000 {
		b := make([]byte, lot.Intn(14))
		for i := range b {
			b[i] = pick[lot.Intn(len(pick))]
			if i < 10 && lot.Intn(4) > 0 {
				b[i] |= 128
			}
		}
		s, at := string(b), lot.Intn(3)
		x, next, ok := snapshot.TakeNumber(s, at)
		want, there := plainTake(s, at)
		if !there {
			takesNone(t, s, at)
			w["none"]++
			continue
		}
		if !ok || want.Cmp(new(big.Int).SetUint64(x)) != 0 || s[at:next] != numberByHand(want) {
			t.Fatalf("TakeNumber(%q, %d): %d, %d, %t, not %d", s, at, x, next, ok, want)
		}
		w["there"]++
		if next-at == 10 {
			w["of 10 bytes"]++
		}
	}
	w.enough(t, 500, "none", "there", "of 10 bytes")
}

// plainTake is the number that stands at a place.
func plainTake(s string, at int) (x *big.Int, there bool) {
	if at > len(s) {
		return nil, false
	}
	defer func() { there = recover() == nil }()
	e := &eater{s, s[at:]}
	return e.number(new(big.Int), new(big.Int).Sub(word, big.NewInt(1))), true
}
