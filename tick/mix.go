package tick

import (
	"math/bits"

	"convoy/api"
)

const (
	mixFirst  = 0xbf58476d1ce4e5b9
	mixSecond = 0x94d049bb133111eb

	hashStart = 14695981039346656037
	hashTimes = 1099511628211

	wordBits = 64
)

// Mix mixes a number's bits: no two numbers are mixed to one.
func Mix(x uint64) uint64 {
	x ^= x >> 30
	x *= mixFirst
	x ^= x >> 27
	x *= mixSecond
	x ^= x >> 31
	return x
}

// Hash is a text as a number.
func Hash(s string, seed uint64) uint64 {
	h := seed ^ hashStart
	for i := range len(s) {
		h ^= uint64(s[i])
		h *= hashTimes
	}
	return Mix(h)
}

// Part is which part of some a number falls to.
func Part(x uint64, parts int) (int, api.Errno) {
	if parts < 1 {
		return 0, api.ErrArg
	}
	high, _ := bits.Mul64(x, uint64(parts))
	return int(high), api.OK
}

// Fold lays stretches of bits over one another.
func Fold(x uint64, bits int) (uint64, api.Errno) {
	if bits < 1 || bits > wordBits {
		return 0, api.ErrBits
	}
	// A shift by 64 leaves 0, so that the stretch of all bits needs no case of its own.
	stretch := uint64(1)<<bits - 1
	var folded uint64
	for ; x != 0; x >>= bits {
		folded ^= x & stretch
	}
	return folded, api.OK
}
