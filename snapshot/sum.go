package snapshot

import (
	"convoy/memo"
	"convoy/tick"
)

// sumSize is how many bytes a sum has.
const sumSize = 8

// sumBytes answers the bytes of a sum.
func sumBytes(sum uint64) string {
	var b [sumSize]byte
	for i := range b {
		b[i] = byte(sum >> (8 * i))
	}
	return string(b[:])
}

// takeSum answers the sum whose bytes stand at the beginning of s, where there are enough of them.
func takeSum(s string) uint64 {
	var sum uint64
	for i := range sumSize {
		sum |= uint64(s[i]) << (8 * i)
	}
	return sum
}

// sumOf answers the sum of bytes.
func sumOf(s string) uint64 { return tick.Hash(s, 0) }

// sealed answers bytes with their sum behind them.
func sealed(s string) string { return s + sumBytes(sumOf(s)) }

// sumOfMemo answers the sum that stands at the end of a memo's bytes.
func sumOfMemo(m *memo.Memo) uint64 {
	s, _ := Tell(m)
	sum, _ := Sum(s)
	return sum
}

// Sum answers the sum that stands at the end of s, and whether it is that of what stands ahead (20.4).
func Sum(s string) (uint64, bool) {
	at := len(s) - sumSize
	if at < 0 {
		return 0, false
	}
	sum := takeSum(s[at:])
	return sum, sum == sumOf(s[:at])
}
