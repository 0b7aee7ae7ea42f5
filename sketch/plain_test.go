package sketch_test

import (
	"math/big"
	"slices"
	"strings"

	"convoy/api"
)

// plain is a sketch as the document tells it: counters that are looked up by their row and place, and a total.
type plain struct {
	rows, bits int
	counters   map[[2]int]int
	total      *big.Int
}

func newPlain(rows, bits int) *plain {
	return &plain{rows: rows, bits: bits, counters: map[[2]int]int{}, total: new(big.Int)}
}

// word is 2^64: what is worked out modulo that is so in numbers without any bound.
var word = new(big.Int).Lsh(big.NewInt(1), 64)

// number is the number of some hexadecimal digits.
func number(hex string) *big.Int {
	n, _ := new(big.Int).SetString(hex, 16)
	return n
}

// times is x times a number, modulo 2^64.
func times(x *big.Int, hex string) *big.Int {
	return x.Mod(x.Mul(x, number(hex)), word)
}

// shifted is x, exclusive or it shifted right.
func shifted(x *big.Int, by uint) *big.Int {
	return new(big.Int).Xor(x, new(big.Int).Rsh(x, by))
}

// hashByHand is a key's hash, as chapter 2 tells it.
func hashByHand(k api.Key) *big.Int {
	h := number("cbf29ce484222325")
	all := append([]byte{byte(k.Space), byte(k.Space >> 8), byte(len(k.Name))}, k.Name...)
	for _, b := range all {
		h = times(new(big.Int).Xor(h, big.NewInt(int64(b))), "100000001b3")
	}
	return shifted(times(shifted(h, 32), "9e3779b97f4a7c15"), 29)
}

// mixByHand is a number that is mixed, as chapter 1 tells it.
func mixByHand(x *big.Int) *big.Int {
	x = times(shifted(x, 30), "bf58476d1ce4e5b9")
	x = times(shifted(x, 27), "94d049bb133111eb")
	return shifted(x, 31)
}

// foldByHand lays each bit where its stretch has it.
func foldByHand(x *big.Int, bits int) int {
	folded := 0
	for i := range x.BitLen() {
		if bits > 0 {
			folded ^= int(x.Bit(i)) << (i % bits)
		}
	}
	return folded
}

// placesByHand is the places of a key's counters, of a key that may be.
func placesByHand(k api.Key, rows, bits int) []int {
	l := []int{}
	x := hashByHand(k)
	for range rows {
		l = append(l, foldByHand(mixByHand(x), bits))
		x = x.Add(x, number("9e3779b97f4a7c15"))
		x.Mod(x, word)
	}
	return l
}

// mayBe tells whether a key may be, as chapter 2 tells it.
func mayBe(k api.Key) bool { return len(k.Name) <= 64 }

// of is the counters of a key, as rows and places.
func (p *plain) of(k api.Key) [][2]int {
	l := [][2]int{}
	for row, place := range placesByHand(k, p.rows, p.bits) {
		l = append(l, [2]int{row, place})
	}
	return l
}

func (p *plain) count(k api.Key) int {
	if !mayBe(k) {
		return 0
	}
	l := []int{}
	for _, at := range p.of(k) {
		l = append(l, p.counters[at])
	}
	return slices.Min(l)
}

func (p *plain) add(k api.Key) (int, api.Errno) {
	if !mayBe(k) {
		return 0, api.ErrKey
	}
	was := p.count(k)
	for _, at := range p.of(k) {
		if p.counters[at] == was && was < 255 {
			p.counters[at]++
		}
	}
	p.total.Add(p.total, big.NewInt(1))
	return p.count(k), api.OK
}

func (p *plain) halve() {
	for at := range p.counters {
		p.counters[at] /= 2
	}
	p.total.Rsh(p.total, 1)
}

func (p *plain) merge(o *plain) (*plain, api.Errno) {
	if p.rows != o.rows || p.bits != o.bits {
		return nil, api.ErrSketch
	}
	both := newPlain(p.rows, p.bits)
	for _, one := range []*plain{p, o} {
		for at, c := range one.counters {
			both.counters[at] = min(both.counters[at]+c, 255)
		}
		both.total.Add(both.total, one.total)
	}
	both.total.Mod(both.total, word)
	return both, api.OK
}

// less is the order of keys, as chapter 2 tells it.
func less(a, b api.Key) bool {
	return a.Space < b.Space || a.Space == b.Space && strings.Compare(a.Name, b.Name) < 0
}

// hot takes the first one of what is left, as often as asked for.
func (p *plain) hot(n int, keys []api.Key) ([]api.Hot, api.Errno) {
	if n < 0 {
		return nil, api.ErrArg
	}
	left := map[api.Key]int{}
	for _, k := range keys {
		if mayBe(k) {
			left[k] = p.count(k)
		}
	}
	l := []api.Hot{}
	for n > len(l) && len(left) > 0 {
		var first *api.Hot
		for k, c := range left {
			if first == nil || c > first.Count || c == first.Count && less(k, first.Key) {
				first = &api.Hot{Key: k, Count: c}
			}
		}
		delete(left, first.Key)
		l = append(l, *first)
	}
	return l, api.OK
}

func (p *plain) clone() *plain {
	twin := newPlain(p.rows, p.bits)
	for at, c := range p.counters {
		twin.counters[at] = c
	}
	twin.total.Set(p.total)
	return twin
}
