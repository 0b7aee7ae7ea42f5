package tally

import (
	"math/bits"

	"convoy/api"
	"convoy/tick"
)

// mostTogether is how much the counts of all buckets may be together: 2^62.
const mostTogether = 1 << 62

// Waits is how long callers waited from their last Join to being told, in buckets (26.2).
func Waits(l []api.Event) [64]int {
	return times(l, api.EventJoin, api.EventTell, func(e api.Event) int { return e.Caller })
}

// Lengths is how long runs went on from their last Begin to an End, in buckets (26.2).
func Lengths(l []api.Event) [64]int {
	return times(l, api.EventBegin, api.EventEnd, func(e api.Event) int { return e.Run })
}

// times is how long it is from the last event of one kind to one of another kind of the same caller or run, in buckets.
func times(l []api.Event, from, to int, whose func(e api.Event) int) [64]int {
	var b [64]int
	began := map[int]int64{}
	for _, e := range l {
		switch e.Kind {
		case from:
			began[whose(e)] = e.At
		case to:
			if at, is := began[whose(e)]; is {
				countTime(&b, e.At, at)
			}
		}
	}
	return b
}

// countTime counts how long ago a tick was; what is no tick, or ahead of its own beginning, is not counted.
func countTime(b *[64]int, now, at int64) {
	age, err := tick.Age(now, at)
	if err != api.OK {
		return
	}
	if bucket, err := tick.Bucket(age); err == api.OK {
		b[bucket]++
	}
}

// Add is the counts of two, bucket by bucket (26.2).
func Add(a, b [64]int) [64]int {
	addTo(a[:], b[:])
	return a
}

// Quantile is a time that is not below such a part of all, which is the greatest one of its bucket (26.2).
func Quantile(b [64]int, part, of int) (int64, api.Errno) {
	all, may := together(b)
	if !may || of < 1 || part < 0 || part > of {
		return 0, api.ErrArg
	}
	bucket, soFar := 0, b[0]
	for isBelow(soFar, of, all, part) {
		bucket++
		soFar += b[bucket]
	}
	_, greatest, err := tick.Edges(bucket)
	return greatest, err
}

// together is all counts, if none is below 0 and they are not too much.
func together(b [64]int) (int, bool) {
	all := 0
	for _, count := range b {
		// Held against the room that is left, as all + count may wrap.
		if count < 0 || count > mostTogether-all {
			return 0, false
		}
		all += count
	}
	return all, true
}

// isBelow tells whether count times of is below all times part, of which none is below 0, without any bound.
func isBelow(count, of, all, part int) bool {
	high, low := bits.Mul64(uint64(count), uint64(of))
	allHigh, allLow := bits.Mul64(uint64(all), uint64(part))
	return high < allHigh || high == allHigh && low < allLow
}
