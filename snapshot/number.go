package snapshot

// A byte of a number holds 7 bits; more is added to it as long as others come behind it.
const (
	partBits = 7
	more     = 1 << partBits
	mostSize = 10 // bytes of the greatest number
)

// Number answers the bytes of a number (20.1).
func Number(x uint64) string {
	var b []byte
	for x >= more {
		b = append(b, byte(x)|more)
		x >>= partBits
	}
	return string(append(b, byte(x)))
}

// TakeNumber answers the number whose bytes stand in s from at on, and the place behind them (20.1).
func TakeNumber(s string, at int) (uint64, int, bool) {
	if at < 0 || at > len(s) {
		return 0, 0, false
	}
	var x uint64
	for i := range min(len(s)-at, mostSize) {
		b := s[at+i]
		x |= uint64(b%more) << (i * partBits)
		if b >= more {
			continue
		}
		if !mayBeLast(b, i) {
			return 0, 0, false
		}
		return x, at + i + 1, true
	}
	return 0, 0, false
}

// mayBeLast tells whether a byte may be the last one of a number, behind so many others: not if they would do without it, nor with more than 64 bits in all.
func mayBeLast(b byte, ahead int) bool {
	if ahead == mostSize-1 {
		return b == 1
	}
	return b > 0 || ahead == 0
}

// Sign answers the number from 0 on by which one with a sign is told (20.1).
func Sign(n int64) uint64 {
	twice := uint64(n) << 1
	if n < 0 {
		// Twice its size less 1: that is each bit of twice the number turned over.
		return ^twice
	}
	return twice
}

// Unsign answers the number with a sign that is told by one from 0 on (20.1).
func Unsign(x uint64) int64 {
	half := int64(x >> 1)
	if x%2 == 1 {
		return ^half
	}
	return half
}
