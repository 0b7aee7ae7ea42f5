package ready_test

import (
	"math/big"
	"slices"

	"convoy/api"
)

// plain is ready ones that keep all in the plainest way, with numbers without any bound.
type plain struct {
	policy int
	state  *big.Int
	picks  []int // those that are left
	ready  []int
	told   []int
}

func newPlain(policy int, seed uint64, picks []int) *plain {
	return &plain{policy: policy, state: new(big.Int).SetUint64(seed), picks: slices.Clone(picks)}
}

func (p *plain) clone() *plain {
	return &plain{p.policy, new(big.Int).Set(p.state), slices.Clone(p.picks), slices.Clone(p.ready), slices.Clone(p.told)}
}

func (p *plain) wake(n int) api.Errno {
	if slices.Contains(p.ready, n) {
		return 40
	}
	if len(p.ready) == 65536 {
		return 3
	}
	p.ready = append(p.ready, n)
	return 0
}

func (p *plain) rest(n int) bool {
	for i, one := range p.ready {
		if one == n {
			p.ready = slices.Concat(p.ready[:i], p.ready[i+1:])
			return true
		}
	}
	return false
}

// hex is the number that some digits tell.
func hex(digits string) *big.Int {
	n, ok := new(big.Int).SetString(digits, 16)
	if !ok {
		panic(digits)
	}
	return n
}

// in64 is a number modulo 2^64.
func in64(x *big.Int) *big.Int { return new(big.Int).Mod(x, hex("10000000000000000")) }

// shifted is a number, exclusive or it shifted right.
func shifted(x *big.Int, bits uint) *big.Int {
	return new(big.Int).Xor(x, new(big.Int).Rsh(x, bits))
}

func times(x *big.Int, by string) *big.Int { return in64(new(big.Int).Mul(x, hex(by))) }

// mixed is chapter 1's words.
func mixed(x *big.Int) *big.Int {
	x = times(shifted(x, 30), "bf58476d1ce4e5b9")
	x = times(shifted(x, 27), "94d049bb133111eb")
	return shifted(x, 31)
}

// drawn is the state behind one, and the place of so many.
func drawn(state *big.Int, n int) (*big.Int, int) {
	state = mixed(in64(new(big.Int).Add(state, hex("9e3779b97f4a7c15"))))
	product := new(big.Int).Mul(state, big.NewInt(int64(n)))
	return state, int(product.Rsh(product, 64).Int64())
}

// modulo is p modulo n, from 0 on.
func modulo(p, n int) int {
	return int(new(big.Int).Mod(big.NewInt(int64(p)), big.NewInt(int64(n))).Int64())
}

// farthest is the place of the number than which no other one is farther.
func farthest(l []int, farther func(a, b int) bool) int {
	place := 0
	for i, n := range l {
		if farther(n, l[place]) {
			place = i
		}
	}
	return place
}

// pick goes on by a turn.
func (p *plain) pick() (int, bool) {
	if len(p.ready) == 0 {
		return 0, false
	}
	place := 0
	switch {
	case len(p.picks) > 0:
		place = modulo(p.picks[0], len(p.ready))
		p.picks = p.picks[1:]
	case p.policy == 1:
		place = len(p.ready) - 1
	case p.policy == 2:
		p.state, place = drawn(p.state, len(p.ready))
	case p.policy == 3:
		place = farthest(p.ready, func(a, b int) bool { return a < b })
	case p.policy == 4:
		place = farthest(p.ready, func(a, b int) bool { return a > b })
	}
	n := p.ready[place]
	p.rest(n)
	p.told = append(p.told, place)
	return n, true
}
