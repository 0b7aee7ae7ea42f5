package tick_test

import (
	"hash/fnv"
	"math"
	"math/big"
	"strings"
	"testing"

	"convoy/api"
	"convoy/tick"
)

// words are the numbers as words of 64 bits, and some of which many bits are 1.
func words() []uint64 {
	var l []uint64
	for _, n := range numbers() {
		l = append(l, uint64(n), ^uint64(n))
	}
	return append(l, 0xff00, 0x0123456789abcdef, 0xdeadbeefcafef00d, 0xaaaaaaaaaaaaaaaa)
}

func TestMix(t *testing.T) {
	// The answers of the well-known generator splitmix64, whose last step this is.
	for _, c := range []struct {
		seed uint64
		want []uint64
	}{
		{0, []uint64{0xe220a8397b1dcdaf, 0x6e789e6aa1b965f4, 0x06c45d188009454f}},
		{1234567, []uint64{6457827717110365317, 3203168211198807973, 9817491932198370423}},
	} {
		x := c.seed
		for i, want := range c.want {
			x += 0x9e3779b97f4a7c15
			if got := tick.Mix(x); got != want {
				t.Errorf("Mix(%#x), number %d: %#x", x, i, got)
			}
		}
	}
	if got := tick.Mix(0); got != 0 {
		t.Error(got)
	}
	if got := tick.Mix(1); got != 0x5692161d100b05e5 {
		t.Errorf("%#x", got)
	}
}

func TestHash(t *testing.T) {
	texts := []string{"", "a", "b", "ab", "ba", "foobar", "\x00", "\x00\x00", "\x80", "\xff\xfe", "\u00e9\u20ac", strings.Repeat("key", 60)}
	for _, s := range texts {
		f := fnv.New64a()
		f.Write([]byte(s))
		if got, want := tick.Hash(s, 0), tick.Mix(f.Sum64()); got != want {
			t.Errorf("Hash(%.20q, 0): %#x", s, got)
		}
		for _, seed := range words() {
			if got, want := tick.Hash(s, seed), hashByHand(s, seed); got != want {
				t.Fatalf("Hash(%.20q, %#x): %#x", s, seed, got)
			}
		}
	}
	// The text is empty: nothing but the seed and the start is mixed.
	if got := tick.Hash("", 14695981039346656037); got != 0 {
		t.Errorf("%#x", got)
	}
	if tick.Hash("a", 1) == tick.Hash("a", 2) || tick.Hash("a", 1) == tick.Hash("b", 1) {
		t.Error("seed or text is not heeded")
	}
}

// hashByHand works modulo 2^64 in numbers without any bound.
func hashByHand(s string, seed uint64) uint64 {
	start, _ := new(big.Int).SetString("14695981039346656037", 10)
	h := start.Xor(start, new(big.Int).SetUint64(seed))
	word := new(big.Int).Lsh(big.NewInt(1), 64)
	for _, b := range []byte(s) {
		h.Xor(h, big.NewInt(int64(b)))
		h.Mul(h, big.NewInt(1099511628211))
		h.Mod(h, word)
	}
	return tick.Mix(h.Uint64())
}

func TestPart(t *testing.T) {
	for _, c := range []struct {
		x     uint64
		parts int
		part  int
		err   api.Errno
	}{
		{1 << 63, 10, 5, api.OK},
		{0, 10, 0, api.OK},
		{math.MaxUint64, 10, 9, api.OK},
		{math.MaxUint64, 1, 0, api.OK},
		{0, 1, 0, api.OK},
		{1<<63 - 1, 2, 0, api.OK},
		{1 << 63, 2, 1, api.OK},
		{1 << 62, 64, 16, api.OK},
		{math.MaxUint64, math.MaxInt, math.MaxInt - 1, api.OK},
		{1 << 63, math.MaxInt, math.MaxInt / 2, api.OK},
		{2, math.MaxInt, 0, api.OK},
		{3, math.MaxInt, 1, api.OK},
		{1 << 63, 0, 0, api.ErrArg},
		{1 << 63, -1, 0, api.ErrArg},
		{0, 0, 0, api.ErrArg},
		{math.MaxUint64, math.MinInt, 0, api.ErrArg},
	} {
		if part, err := tick.Part(c.x, c.parts); part != c.part || err != c.err {
			t.Errorf("Part(%#x, %d): %d, %d", c.x, c.parts, part, err)
		}
	}
}

// TestPartLikeProduct holds Part against products without any bound.
func TestPartLikeProduct(t *testing.T) {
	for _, x := range words() {
		for _, n := range numbers() {
			parts := int(n)
			if parts < 1 {
				continue
			}
			product := new(big.Int).Mul(new(big.Int).SetUint64(x), big.NewInt(n))
			want := product.Rsh(product, 64).Int64()
			if part, err := tick.Part(x, parts); int64(part) != want || err != api.OK {
				t.Fatalf("Part(%#x, %d): %d, %d", x, parts, part, err)
			}
		}
	}
}

func TestFold(t *testing.T) {
	for _, c := range []struct {
		x      uint64
		bits   int
		folded uint64
		err    api.Errno
	}{
		{0xff00, 8, 255, api.OK},
		{0xff0f, 8, 0xf0, api.OK},
		{0x0123456789abcdef, 8, 0, api.OK},
		{0x0123456789abcdef, 16, 0, api.OK},
		{0x0123456789abcdef, 32, 0x88888888, api.OK},
		{0x0123456789abcdef, 64, 0x0123456789abcdef, api.OK},
		{math.MaxUint64, 64, math.MaxUint64, api.OK},
		{math.MaxUint64, 63, math.MaxUint64>>1 - 1, api.OK}, // the last stretch is one bit
		{math.MaxUint64, 62, math.MaxUint64>>2 - 3, api.OK},
		{1 << 63, 63, 1, api.OK},
		{1 << 63, 62, 2, api.OK},
		{1<<60 | 1<<59, 60, 1 | 1<<59, api.OK},
		{7, 1, 1, api.OK},
		{3, 1, 0, api.OK},
		{1 << 63, 1, 1, api.OK},
		{math.MaxUint64, 1, 0, api.OK},
		{math.MaxUint64, 3, 6, api.OK}, // 21 stretches of three, and one of a bit
		{0, 1, 0, api.OK},
		{0, 64, 0, api.OK},
		{0xff00, 0, 0, api.ErrBits},
		{0xff00, -1, 0, api.ErrBits},
		{0xff00, 65, 0, api.ErrBits},
		{0xff00, 128, 0, api.ErrBits},
		{0, 0, 0, api.ErrBits},
		{0xff00, math.MinInt, 0, api.ErrBits},
		{0xff00, math.MaxInt, 0, api.ErrBits},
	} {
		if folded, err := tick.Fold(c.x, c.bits); folded != c.folded || err != c.err {
			t.Errorf("Fold(%#x, %d): %#x, %d", c.x, c.bits, folded, err)
		}
	}
}

// TestFoldBitByBit lays each bit where its stretch has it.
func TestFoldBitByBit(t *testing.T) {
	for _, x := range words() {
		for bits := 1; bits <= 64; bits++ {
			var want uint64
			for place := range 64 {
				want ^= x >> place & 1 << (place % bits)
			}
			if folded, err := tick.Fold(x, bits); folded != want || err != api.OK {
				t.Fatalf("Fold(%#x, %d): %#x, %d", x, bits, folded, err)
			}
		}
	}
}
