// Package tick is layer 1: see shared/doc/01-tick.md.
package tick

import (
	"math/bits"

	"convoy/api"
)

// Is tells whether a number is a tick.
func Is(t int64) bool { return t >= 0 && t <= api.MaxTime }

// Age is how long ago a tick was.
func Age(now, at int64) (int64, api.Errno) {
	if !Is(now) || !Is(at) {
		return 0, api.ErrTick
	}
	if now < at {
		return 0, api.ErrArg
	}
	return now - at, api.OK
}

// Within tells whether a tick was less than some times ago.
func Within(now, at int64, times ...int64) (bool, api.Errno) {
	age, err := Age(now, at)
	if err != api.OK {
		return false, err
	}
	high, low, err := Sum(times...)
	if err != api.OK {
		return false, err
	}
	return high > 0 || uint64(age) < low, api.OK
}

// After is a tick and a time.
func After(t, d int64) (int64, bool) {
	if !Is(t) || d < 0 {
		return 0, false
	}
	// Held against the room that is left, as t + d may wrap.
	if d > api.MaxTime-t {
		return api.MaxTime, false
	}
	return t + d, true
}

// Sum is times together: 128 bits.
func Sum(times ...int64) (uint64, uint64, api.Errno) {
	var high, low uint64
	for _, d := range times {
		if d < 0 {
			return 0, 0, api.ErrTime
		}
		var carry uint64
		low, carry = bits.Add64(low, uint64(d), 0)
		high += carry
	}
	return high, low, api.OK
}
