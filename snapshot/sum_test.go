package snapshot_test

import (
	"math/rand"
	"strings"
	"testing"

	"convoy/api"
	"convoy/memo"
	"convoy/snapshot"
)

// sums looks what Sum answers.
func sums(t *testing.T, s string, want uint64, right bool) {
	t.Helper()
	if got, ok := snapshot.Sum(s); got != want || ok != right {
		t.Errorf("Sum(%q): %#x, %t, not %#x, %t", s, got, ok, want, right)
	}
}

// TestSumShort: fewer than 8 bytes have none (20.4).
func TestSumShort(t *testing.T) {
	for size := range 8 {
		sums(t, strings.Repeat("\x01", size), 0, false)
		sums(t, tail(sealedByHand(""))[:size], 0, false)
		sums(t, tail(sealedByHand(""))[8-size:], 0, false)
	}
}

// TestSumEight: 8 bytes are a sum, the lowest byte first, of nothing ahead (20.4).
func TestSumEight(t *testing.T) {
	sums(t, "\x01\x02\x03\x04\x05\x06\x07\x08", 0x0807060504030201, false)
	sums(t, "\x00\x00\x00\x00\x00\x00\x00\x80", 1<<63, false)
	sums(t, "\xff\x00\x00\x00\x00\x00\x00\x00", 255, false)
	sums(t, "\x00\x00\x00\x00\x00\x00\x00\x00", 0, false)
	sums(t, sealedByHand(""), sumByHand("").Uint64(), true)
}

// TestSum: right ones and wrong ones, behind any bytes (20.4).
func TestSum(t *testing.T) {
	for _, s := range []string{"a", "convoy01", "no bytes of a memo", strings.Repeat("\x00", 8), strings.Repeat("x", 1000)} {
		right := sealedByHand(s)
		sums(t, right, sumByHand(s).Uint64(), true)
		sums(t, s+"\x01\x02\x03\x04\x05\x06\x07\x08", 0x0807060504030201, false)
		for i := range right {
			b := []byte(right)
			b[i] ^= 1
			want := sumByHand(s).Uint64()
			if place := i - len(s); place >= 0 {
				want ^= 1 << (8 * place)
			}
			sums(t, string(b), want, false)
		}
		if _, ok := snapshot.Sum("y" + right); ok {
			t.Errorf("right with a byte ahead: %q", right)
		}
		if _, ok := snapshot.Sum(right + "y"); ok {
			t.Errorf("right with a byte behind: %q", right)
		}
	}
}

// TestSumOfTold: what is told has its sum behind it (20.4).
func TestSumOfTold(t *testing.T) {
	old, m := memoOf(t, usual, 3), memoOf(t, usual, 5, kept(named("a"), 4, value(7)))
	patch, _ := snapshot.Patch(old, m)
	for _, s := range []string{tell(t, old), tell(t, m), patch} {
		sums(t, s, sumByHand(s[:len(s)-8]).Uint64(), true)
	}
}

// TestSumByLot: any bytes (20.4).
func TestSumByLot(t *testing.T) {
	lot := rand.New(rand.NewSource(1))
	for range 2000 {
		b := make([]byte, lot.Intn(40))
		lot.Read(b)
		s := string(b)
		sums(t, sealedByHand(s), sumByHand(s).Uint64(), true)
		if len(s) >= 8 {
			got, ok := snapshot.Sum(s)
			if sumBytes := eight(sumByHand(s[:len(s)-8])); ok != (sumBytes == tail(s)) {
				t.Errorf("Sum(%q): %#x, %t", s, got, ok)
			}
		}
	}
}

// TestSame: nil and nil, nil and a memo, like and unlike ones (20.4).
func TestSame(t *testing.T) {
	if !snapshot.Same(nil, nil) {
		t.Error("nil and nil")
	}
	a, b := kept(named("a"), 1, value(7)), kept(named("b"), 2, failure(api.FailLoad, 3, 4))
	make := func() *memo.Memo { return memoOf(t, usual, 3, a, b) }
	m := make()
	for _, o := range []*memo.Memo{m, make(), m.Clone()} {
		if !snapshot.Same(m, o) || !snapshot.Same(o, m) {
			t.Errorf("unlike: %+v", plainOf(o))
		}
	}
	for i, o := range unlike(t, a, b) {
		if snapshot.Same(m, o) || snapshot.Same(o, m) {
			t.Errorf("number %d: like", i)
		}
		if o != nil && !snapshot.Same(o, o) {
			t.Errorf("number %d: unlike itself", i)
		}
	}
}

// unlike is memos that are other than the usual one with a and b at the tick 3, each in one thing.
func unlike(t *testing.T, a, b api.Kept) []*memo.Memo {
	l := []*memo.Memo{nil, memoOf(t, usual, 4, a, b), memoOf(t, usual, 3, b, a), memoOf(t, usual, 3, a), memoOf(t, usual, 3)}
	for i := range 7 {
		c := usual
		*[]*int64{&c.TTL, &c.Negative, &c.Stale, &c.Window}[i%4]++
		if i >= 4 {
			c = usual
			*[]*int{&c.Entries, &c.Flight, &c.Batch}[i-4]++
		}
		l = append(l, memoOf(t, c, 3, a, b))
	}
	others := []api.Kept{
		kept(named("c"), 1, value(7)), kept(api.Key{Space: 1, Name: "a"}, 1, value(7)), kept(named("a"), 0, value(7)),
		kept(named("a"), 1, value(8)), kept(named("a"), 1, value(-7)), kept(named("a"), 1, failure(api.FailLoad, 3, 4)),
	}
	for _, o := range others {
		l = append(l, memoOf(t, usual, 3, o, b))
	}
	for _, f := range []api.Outcome{failure(api.FailPanic, 3, 4), failure(api.FailLoad, -3, 4), failure(api.FailLoad, 3, 5), value(3)} {
		l = append(l, memoOf(t, usual, 3, a, kept(named("b"), 2, f)))
	}
	return l
}
