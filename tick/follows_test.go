package tick_test

import (
	"math"
	"testing"

	"convoy/api"
	"convoy/tick"
)

// What follows of the other promises (1.5).

// inverse is the number that times an odd one is 1, modulo 2^64.
func inverse(odd uint64) uint64 {
	x := odd
	for range 6 {
		x *= 2 - odd*x
	}
	return x
}

// unshift takes back an exclusive or of a number with itself shifted right.
func unshift(x uint64, by int) uint64 {
	out := x
	for range 64 / by {
		out = x ^ out>>by
	}
	return out
}

func unmix(x uint64) uint64 {
	x = unshift(x, 31)
	x = unshift(x*inverse(0x94d049bb133111eb), 27)
	return unshift(x*inverse(0xbf58476d1ce4e5b9), 30)
}

// TestMixIsTakenBack: what can be taken back is not the same for unlike numbers.
func TestMixIsTakenBack(t *testing.T) {
	all := words()
	for n := range uint64(100000) {
		all = append(all, n, n<<40, n*0x9e3779b97f4a7c15)
	}
	for _, x := range all {
		if got := unmix(tick.Mix(x)); got != x {
			t.Fatalf("Mix(%#x): taken back it is %#x", x, got)
		}
	}
}

func TestMixOfUnlikeNumbers(t *testing.T) {
	from := map[uint64]uint64{}
	for n := range uint64(200000) {
		got := tick.Mix(n)
		if other, ok := from[got]; ok {
			t.Fatalf("Mix(%d) and Mix(%d): %#x", other, n, got)
		}
		from[got] = n
	}
}

func TestPartIsBelowParts(t *testing.T) {
	for _, parts := range []int{1, 2, 3, 7, 10, 64, 65536, 1 << 40, api.MaxTime, math.MaxInt} {
		for _, x := range words() {
			if part, err := tick.Part(x, parts); part < 0 || part >= parts || err != api.OK {
				t.Fatalf("Part(%#x, %d): %d, %d", x, parts, part, err)
			}
		}
	}
}

func TestWithinStaysSo(t *testing.T) {
	times := []int64{0, 1, 3, 5, longest, longest, 2, longest, longest, 7, 0}
	more := []int64{0, 1, 2, 1000, api.MaxTime, longest - 1, longest}
	for _, now := range []int64{0, 1, 4, 5, 9, 1000, api.MaxTime - 1, api.MaxTime} {
		for n := range len(times) + 1 {
			was, err := tick.Within(now, 0, times[:n]...)
			if err != api.OK {
				t.Fatal(now, times[:n], err)
			}
			for _, d := range more {
				is, err := tick.Within(now, 0, append([]int64{d}, times[:n]...)...)
				if err != api.OK || was && !is {
					t.Fatalf("Within(%d, 0, %d) no more, with %d", now, times[:n], d)
				}
			}
		}
	}
}

func TestTimeLiesInItsEdges(t *testing.T) {
	for _, d := range numbers() {
		if d < 0 {
			continue
		}
		bucket, err := tick.Bucket(d)
		if err != api.OK {
			t.Fatal(d, err)
		}
		from, to, err := tick.Edges(bucket)
		if err != api.OK || d < from || d > to {
			t.Fatalf("%d: bucket %d, from %d to %d, %d", d, bucket, from, to, err)
		}
	}
}

// TestBucketsAreNeighbours: all times together lie in just one bucket each.
func TestBucketsAreNeighbours(t *testing.T) {
	next := int64(0)
	for bucket := range 64 {
		from, to, err := tick.Edges(bucket)
		if err != api.OK || from != next || to < from {
			t.Fatalf("Edges(%d): %d, %d, %d", bucket, from, to, err)
		}
		for _, d := range []int64{from, to} {
			if b, err := tick.Bucket(d); b != bucket || err != api.OK {
				t.Fatalf("Bucket(%d): %d, %d", d, b, err)
			}
		}
		if bucket == 63 && to != longest {
			t.Fatal(to)
		}
		if bucket < 63 {
			next = to + 1
		}
	}
}
