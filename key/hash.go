package key

import (
	"convoy/api"
	"convoy/tick"
)

const (
	hashStart  = 0xcbf29ce484222325
	hashFactor = 0x100000001b3
	hashLast   = 0x9e3779b97f4a7c15
)

// maxParts is the greatest number of parts that keys may fall to.
const maxParts = 65536

// Hash is the hash of any key, be its name too long or not.
func Hash(k api.Key) uint64 {
	h := uint64(hashStart)
	ahead := head(k)
	for i := range len(ahead) {
		h = (h ^ uint64(ahead[i])) * hashFactor
	}
	for i := range len(k.Name) {
		h = (h ^ uint64(k.Name[i])) * hashFactor
	}
	h = (h ^ h>>32) * hashLast
	return h ^ h>>29
}

// Part is which of n parts a key falls to.
func Part(k api.Key, n int) (int, api.Errno) {
	if n < 1 || n > maxParts {
		return 0, api.ErrArg
	}
	// The lower bits are cut off, so that the high half of the product hangs on the upper 32 alone.
	return tick.Part(Hash(k)>>32<<32, n)
}
