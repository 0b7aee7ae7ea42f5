package snapshot_test

import (
	"math"
	"math/big"
	"strings"
	"testing"

	"convoy/api"
	"convoy/memo"
	"convoy/snapshot"
)

// The calls are those that the chapter lists: a change of one does not compile.
var (
	_ func(uint64) string                                   = snapshot.Number
	_ func(string, int) (uint64, int, bool)                 = snapshot.TakeNumber
	_ func(int64) uint64                                    = snapshot.Sign
	_ func(uint64) int64                                    = snapshot.Unsign
	_ func(*memo.Memo) (string, api.Errno)                  = snapshot.Tell
	_ func(string) (*memo.Memo, int, api.Errno)             = snapshot.Read
	_ func(*memo.Memo, *memo.Memo) (string, api.Errno)      = snapshot.Patch
	_ func(*memo.Memo, string) (*memo.Memo, int, api.Errno) = snapshot.Apply
	_ func(string) (uint64, bool)                           = snapshot.Sum
	_ func(*memo.Memo, *memo.Memo) bool                     = snapshot.Same
)

const (
	maxTime = 1 << 62       // the greatest tick
	most    = math.MaxInt64 // the greatest time, and the greatest number with a sign
	least   = math.MinInt64
	whole   = math.MaxUint64
)

// TestNumbers: errors and limits have the numbers that the document names.
func TestNumbers(t *testing.T) {
	got := []int{int(api.ErrBytes), int(api.ErrSum), int(api.ErrOther), int(api.ErrArg),
		api.FailLoad, api.FailPanic, api.MaxEntries, api.MaxFlight, api.MaxBatch, api.MaxName, api.MaxTime}
	want := []int{200, 201, 202, 1, 1, 2, 65536, 4096, 1024, 64, maxTime}
	for i := range want {
		if got[i] != want[i] {
			t.Errorf("number %d: %d, not %d", i, got[i], want[i])
		}
	}
}

// usual is a configuration by which values and failures are kept; no two of its numbers are the same.
var usual = api.Config{TTL: 5, Negative: 2, Stale: 3, Entries: 4, Flight: 7, Batch: 8, Window: 9}

// lowest and greatest are configurations whose numbers are all as small, and as great, as they may be.
var (
	lowest   = api.Config{Flight: 1, Batch: 1}
	greatest = api.Config{TTL: most, Negative: most, Stale: most, Entries: 65536, Flight: 4096, Batch: 1024, Window: most}
)

// named is a key of the space 0.
func named(name string) api.Key { return api.Key{Name: name} }

// longest is a key with as long a name as there may be, and the last of all in order.
var longest = api.Key{Space: 65535, Name: strings.Repeat("\xff", 64)}

func value(n int64) api.Outcome { return api.Outcome{Value: n} }

func failure(kind, code, run int) api.Outcome {
	return api.Outcome{Fail: api.Fail{Kind: kind, Code: code, Run: run}}
}

// kept is an entry.
func kept(k api.Key, at int64, o api.Outcome) api.Kept { return api.Kept{Key: k, At: at, Outcome: o} }

// memoOf is a memo with some entries, the one that was used the longest time ago first.
func memoOf(t *testing.T, c api.Config, now int64, l ...api.Kept) *memo.Memo {
	t.Helper()
	m, at, err := memo.Of(c, now, l)
	if err != api.OK {
		t.Fatalf("Of(%+v, %d, %d entries): %d, %d", c, now, len(l), at, err)
	}
	return m
}

// tell is the bytes of a memo, which must be the ones worked out by hand.
func tell(t *testing.T, m *memo.Memo) string {
	t.Helper()
	got, err := snapshot.Tell(m)
	if want := plainOf(m).tell(); got != want || err != api.OK {
		t.Fatalf("Tell: %q, %d, not %q", got, err, want)
	}
	return got
}

// A part of bytes that are put together: a text, a number, a number with a sign, a key, a kind.
type (
	num  uint64
	sig  int64
	kind byte
)

func partBytes(part any) string {
	switch p := part.(type) {
	case string:
		return p
	case num:
		return numberByHand(new(big.Int).SetUint64(uint64(p)))
	case sig:
		return numberByHand(signByHand(int64(p)))
	case kind:
		return string([]byte{byte(p)})
	case api.Key:
		return keyByHand(p)
	}
	panic("no part")
}

// join is the bytes of parts, and the place of each, and the one behind all.
func join(parts []any) (string, []int) {
	s := ""
	places := []int{0}
	for _, part := range parts {
		s += partBytes(part)
		places = append(places, len(s))
	}
	return s, places
}

// with is parts with others in the place of one.
func with(parts []any, i int, in ...any) []any {
	l := append([]any{}, parts[:i]...)
	return append(append(l, in...), parts[i+1:]...)
}

// TestTellEmpty: a memo without entries, of the least and of the greatest configuration (20.2).
func TestTellEmpty(t *testing.T) {
	tests := []struct {
		c    api.Config
		now  int64
		want string
	}{
		{lowest, 0, "convoy01\x00\x00\x00\x00\x01\x01\x00" + "\x00" + "\x00"},
		{usual, 300, "convoy01\x05\x02\x03\x04\x07\x08\x09" + "\xac\x02" + "\x00"},
		{greatest, maxTime, "convoy01" + "\xff\xff\xff\xff\xff\xff\xff\xff\x7f" + "\xff\xff\xff\xff\xff\xff\xff\xff\x7f" +
			"\xff\xff\xff\xff\xff\xff\xff\xff\x7f" + "\x80\x80\x04" + "\x80\x20" + "\x80\x08" + "\xff\xff\xff\xff\xff\xff\xff\xff\x7f" +
			"\x80\x80\x80\x80\x80\x80\x80\x80\x40" + "\x00"},
	}
	for _, x := range tests {
		m := memoOf(t, x.c, x.now)
		if got, err := snapshot.Tell(m); got != sealedByHand(x.want) || err != api.OK {
			t.Errorf("Tell of %+v at %d: %q, %d, not %q", x.c, x.now, got, err, sealedByHand(x.want))
		}
	}
}

// TestTellSum: the sum is told as 8 bytes, the lowest first (20.2).
func TestTellSum(t *testing.T) {
	s := tell(t, memoOf(t, lowest, 0))
	if len(s) != 25 || s[17:] != lowestSum {
		t.Errorf("%q", s)
	}
}

// lowestSum is the sum of a memo of the lowest configuration, worked out once by other means.
const lowestSum = "\xc9\x04\xeb\xfb\xcc\xba\xa7\x29"

// TestTellEntries: values above and below 0, both kinds of failure, in the order of use (20.2).
func TestTellEntries(t *testing.T) {
	m := memoOf(t, greatest, 1000,
		kept(named("b"), 300, value(1)),
		kept(named(""), 0, value(-1)),
		kept(named("a"), 1000, value(0)),
		kept(api.Key{Space: 258, Name: "x\x00"}, 127, failure(api.FailLoad, 64, 1)),
		kept(named("z"), 128, failure(api.FailPanic, -64, most)),
		kept(named("c"), 1, failure(api.FailLoad, 0, 300)),
		kept(named("d"), 1, value(most)),
		kept(named("e"), 1, value(least)),
	)
	want := "\x08" +
		"\x00\x00\x01b" + "\xac\x02" + "\x00" + "\x02" +
		"\x00\x00\x00" + "\x00" + "\x00" + "\x01" +
		"\x00\x00\x01a" + "\xe8\x07" + "\x00" + "\x00" +
		"\x02\x01\x02x\x00" + "\x7f" + "\x01" + "\x80\x01" + "\x01" +
		"\x00\x00\x01z" + "\x80\x01" + "\x02" + "\x7f" + "\xff\xff\xff\xff\xff\xff\xff\xff\x7f" +
		"\x00\x00\x01c" + "\x01" + "\x01" + "\x00" + "\xac\x02" +
		"\x00\x00\x01d" + "\x01" + "\x00" + "\xfe\xff\xff\xff\xff\xff\xff\xff\xff\x01" +
		"\x00\x00\x01e" + "\x01" + "\x00" + "\xff\xff\xff\xff\xff\xff\xff\xff\xff\x01"
	s := tell(t, m)
	from := len(s) - 8 - len(want)
	if got := s[from : len(s)-8]; got != want {
		t.Errorf("entries %q, not %q", got, want)
	}
	if now := s[from-2 : from]; now != "\xe8\x07" {
		t.Errorf("the time %q", now)
	}
}

// TestTellOrderOfUse: an entry that is told goes behind all others, one that is only looked for does not (20.2).
func TestTellOrderOfUse(t *testing.T) {
	a, b := kept(named("a"), 0, value(1)), kept(named("b"), 0, value(2))
	m := memoOf(t, usual, 0, a, b)
	m.Look(0, a.Key)
	m.Get(a.Key)
	if tell(t, m) != (plain{usual, 0, []api.Kept{a, b}}).tell() {
		t.Error("a is used by looking for it")
	}
	m.Tell(0, a.Key)
	if tell(t, m) != (plain{usual, 0, []api.Kept{b, a}}).tell() {
		t.Error("a was told, and stands ahead")
	}
	m.Tell(4, named("none"))
	if tell(t, m) != (plain{usual, 4, []api.Kept{b, a}}).tell() {
		t.Error("the time is another one")
	}
}

// TestTellLongName: a key with the longest name, and as many entries as one number of two bytes tells (20.2).
func TestTellLongName(t *testing.T) {
	l := []api.Kept{kept(longest, 0, value(5))}
	for i := range 127 {
		l = append(l, kept(api.Key{Space: uint16(i)}, 0, value(int64(i))))
	}
	s := tell(t, memoOf(t, greatest, 0, l...))
	from := strings.Index(s, "\x80\x01\xff\xff\x40"+longest.Name+"\x00\x00\x0a")
	if from < 0 {
		t.Errorf("%q", s)
	}
}

// TestNil: of a nil memo ErrArg, and nothing beside it.
func TestNil(t *testing.T) {
	if s, err := snapshot.Tell(nil); s != "" || err != api.ErrArg {
		t.Errorf("Tell(nil): %q, %d", s, err)
	}
	m := memoOf(t, usual, 3)
	for _, pair := range [][2]*memo.Memo{{nil, nil}, {nil, m}, {m, nil}} {
		if s, err := snapshot.Patch(pair[0], pair[1]); s != "" || err != api.ErrArg {
			t.Errorf("Patch(%v): %q, %d", pair, s, err)
		}
	}
	right, _ := snapshot.Patch(m, m)
	for _, s := range []string{"", "x", "convoyp1", right, tell(t, m)} {
		if got, at, err := snapshot.Apply(nil, s); got != nil || at != 0 || err != api.ErrArg {
			t.Errorf("Apply(nil, %q): %v, %d, %d", s, got, at, err)
		}
	}
}

// TestZero: a memo that no call gave does no harm.
func TestZero(t *testing.T) {
	zero := new(memo.Memo)
	s, _ := snapshot.Tell(zero)
	snapshot.Read(s)
	snapshot.Same(zero, zero)
	snapshot.Same(zero, memoOf(t, lowest, 0))
	patch, _ := snapshot.Patch(zero, zero)
	snapshot.Apply(zero, patch)
	snapshot.Apply(zero, sealedByHand("convoyp1"+tail(s)+strings.Repeat("\x00", 12)))
}
