package tick

import (
	"math/bits"

	"convoy/api"
)

const (
	lastBucket = 63 // that of 2^63 - 1, the greatest time
	mostBits   = 62 // MaxTime is 2^62: of a higher power of two, Up would be no tick
)

// Bucket is the power of two in which a time lies.
func Bucket(d int64) (int, api.Errno) {
	if d < 0 {
		return 0, api.ErrTime
	}
	return bits.Len64(uint64(d)), api.OK
}

// Edges is the least and the greatest time of a bucket.
func Edges(bucket int) (int64, int64, api.Errno) {
	if bucket < 0 || bucket > lastBucket {
		return 0, 0, api.ErrArg
	}
	if bucket == 0 {
		return 0, 0, api.OK
	}
	least := int64(1) << (bucket - 1)
	// Not 2*least - 1, which wraps on its way in the last bucket.
	return least, least + (least - 1), api.OK
}

// Down is the multiple of a power of two not above.
func Down(t int64, bits int) (int64, api.Errno) {
	if err := checkRound(t, bits); err != api.OK {
		return 0, err
	}
	return t &^ below(bits), api.OK
}

// Up is the multiple of a power of two not below.
func Up(t int64, bits int) (int64, api.Errno) {
	if err := checkRound(t, bits); err != api.OK {
		return 0, err
	}
	// At most 2^62 + 2^62 - 1 on its way: it does not wrap.
	return (t + below(bits)) &^ below(bits), api.OK
}

// Double is a time doubled, so many times.
func Double(d int64, times int, most int64) (int64, api.Errno) {
	if d < 0 || most < 0 {
		return 0, api.ErrTime
	}
	if times < 0 {
		return 0, api.ErrArg
	}
	// most is halved in place of d doubled, as that may wrap.
	if d > most>>times {
		return most, api.OK
	}
	return d << times, api.OK
}

func checkRound(t int64, bits int) api.Errno {
	if !Is(t) {
		return api.ErrTick
	}
	if bits < 0 || bits > mostBits {
		return api.ErrBits
	}
	return api.OK
}

// below is the number whose lowest bits, so many, are 1.
func below(bits int) int64 { return int64(1)<<bits - 1 }
