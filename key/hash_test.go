package key_test

import (
	"math"
	"math/big"
	"strconv"
	"strings"
	"testing"

	"convoy/api"
	"convoy/key"
)

func TestHash(t *testing.T) {
	for _, c := range []struct {
		k    api.Key
		hash uint64
	}{
		{named(0, ""), 0x33c6000807d5d317},
		{named(7, "a:b"), 0x5e2748a226d3bc9e},
		{named(258, "x"), 0x0ee73dc6ad69cba7},
		{named(65535, ""), 0xc03b8117a1ab6047},
		{named(1, "\xff\x80\x00"), 0x7d82deb848d4761c},
		{named(0, strings.Repeat("k", 64)), 0xe442cc20919296f9},
		{named(0, strings.Repeat("k", 65)), 0xb770a396bd6c1589}, // keys that may not be have a hash, too
		{named(0, strings.Repeat("k", 255)), 0x2b4104f679f73fb2},
		{named(0, strings.Repeat("k", 256)), 0x8735d5ff3df87dd7}, // its length's byte is 0
		{named(0, strings.Repeat("k", 257)), 0xf36881f73bd7e344},
		{named(513, strings.Repeat("k", 1000)), 0xf16822a575cbb90b},
	} {
		if h := key.Hash(c.k); h != c.hash {
			t.Errorf("Hash(%#v, %d bytes): %#x", c.k, len(c.k.Name), h)
		}
	}
}

// hashed is the hash by the chapter's own words, in numbers without any bound.
func hashed(k api.Key) *big.Int {
	bound := new(big.Int).Lsh(big.NewInt(1), 64)
	times := func(h *big.Int, factor uint64) {
		h.Mul(h, new(big.Int).SetUint64(factor)).Mod(h, bound)
	}
	h := new(big.Int).SetUint64(0xcbf29ce484222325)
	bytes := string([]byte{byte(k.Space % 256), byte(k.Space / 256), byte(len(k.Name) % 256)}) + k.Name
	for _, b := range []byte(bytes) {
		h.Xor(h, big.NewInt(int64(b)))
		times(h, 0x100000001b3)
	}
	h.Xor(h, new(big.Int).Rsh(h, 32))
	times(h, 0x9e3779b97f4a7c15)
	return h.Xor(h, new(big.Int).Rsh(h, 29))
}

func TestHashLikeWords(t *testing.T) {
	for _, k := range append(mayBe(), mayNotBe()[:14]...) {
		if h := key.Hash(k); h != hashed(k).Uint64() {
			t.Errorf("Hash(%#v): %#x", k, h)
		}
	}
}

func TestPart(t *testing.T) {
	for _, c := range []struct {
		k    api.Key
		n    int
		part int
	}{
		{named(1, "b"), 1, 0},
		{named(65535, ""), 1, 0},
		{named(65535, ""), 2, 1},
		{named(65535, ""), 7, 5},
		{named(65535, ""), 65535, 49210},
		{named(65535, ""), 65536, 49211},
		{named(7, "a:b"), 2, 0},
		{named(7, "a:b"), 3, 1},
		{named(7, "a:b"), 1000, 367},
		{named(7, "a:b"), 65536, 24103},
		{named(0, strings.Repeat("k", 65)), 7, 5},
		{named(513, strings.Repeat("k", 1000)), 1000, 942},
		{named(1, "14716"), 65521, 48205}, // where the lower 32 bits would make it one more
		{named(1, "96366"), 65535, 11934},
		{named(1, "308385"), 32769, 10345},
	} {
		if p, err := key.Part(c.k, c.n); p != c.part || err != api.OK {
			t.Errorf("Part(%#v, %d): %d, %d", c.k, c.n, p, err)
		}
	}
}

func TestPartErrors(t *testing.T) {
	for _, k := range []api.Key{named(0, ""), named(7, "a:b"), named(0, strings.Repeat("k", 65))} {
		for _, n := range []int{0, -1, -65536, 65537, 65538, 131072, math.MaxInt, math.MinInt, 1 << 32, 1<<32 + 1} {
			if p, err := key.Part(k, n); p != 0 || err != api.ErrArg {
				t.Errorf("Part(%#v, %d): %d, %d", k, n, p, err)
			}
		}
	}
}

// TestPartLikeWords holds parts against quotients, and tells what follows (2.4): from 0 to n - 1, and of twice as many parts twice the one, or that and 1.
func TestPartLikeWords(t *testing.T) {
	keys := mayBe()
	for i := range 200 {
		keys = append(keys, named(uint16(i), strconv.Itoa(i*i)))
	}
	seen := map[int]int{}
	for _, k := range append(keys, mayNotBe()...) {
		for _, n := range []int{1, 2, 3, 4, 5, 10, 16, 100, 1000, 32767, 32768, 32769, 65535, 65536} {
			want := key.Hash(k) >> 32 * uint64(n) / (1 << 32)
			part, err := key.Part(k, n)
			if uint64(part) != want || part < 0 || part >= n || err != api.OK {
				t.Fatalf("Part(%#v, %d): %d, %d", k, n, part, err)
			}
			if n == 4 {
				seen[part]++
			}
			if n > 32768 {
				continue
			}
			if twice, err := key.Part(k, 2*n); twice/2 != part || err != api.OK {
				t.Fatalf("Part(%#v, %d): %d, of %d: %d", k, n, part, 2*n, twice)
			}
		}
	}
	if len(seen) != 4 {
		t.Error("of 4 parts", len(seen), "are taken")
	}
}
