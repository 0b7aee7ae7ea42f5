package snapshot_test

import (
	"strings"
	"testing"

	"convoy/api"
	"convoy/memo"
	"convoy/snapshot"
)

// reads looks that bytes are read as a memo.
func reads(t *testing.T, s string, want plain) *memo.Memo {
	t.Helper()
	m, at, err := snapshot.Read(s)
	if m == nil || at != 0 || err != api.OK || !plainOf(m).is(want) {
		t.Fatalf("Read(%q): %v, %d, %d, not %+v", s, m, at, err, want)
	}
	if again, _ := snapshot.Tell(m); again != s {
		t.Fatalf("Tell of Read(%q): %q", s, again)
	}
	return m
}

// refuses looks that bytes are not read, and where they are wrong.
func refuses(t *testing.T, s string, place int, want api.Errno) {
	t.Helper()
	if m, at, err := snapshot.Read(s); m != nil || at != place || err != want {
		t.Errorf("Read(%q): %v, %d, %d, not %d, %d", s, m, at, err, place, want)
	}
	if _, w := plainRead(s); w != (wrong{place, want}) {
		t.Errorf("by hand Read(%q): %v, not %d, %d", s, w, place, want)
	}
}

// three is the parts of a memo with three entries, but the sum; numbers are of more than one byte where they may be.
var three = []any{
	"convoy01", num(500), num(200), num(300), num(400), num(130), num(131), num(900),
	num(1000), num(3),
	api.Key{Space: 258, Name: "ab"}, num(1000), kind(0), sig(-300),
	named(""), num(0), kind(1), sig(700), num(150),
	longest, num(999), kind(2), sig(0), num(most),
}

// Where the parts of three stand.
const (
	atTTL = 1 + iota
	atNegative
	atStale
	atEntries
	atFlight
	atBatch
	atWindow
	atNow
	atCount
	atKey
	atTick
	atKind
	atValue
	atKey2
	atTick2
	atKind2
	atCode2
	atRun2
	atKey3
	atTick3
	atKind3
	atCode3
	atRun3
)

// threePlain is the memo that three tells.
var threePlain = plain{
	api.Config{TTL: 500, Negative: 200, Stale: 300, Entries: 400, Flight: 130, Batch: 131, Window: 900}, 1000,
	[]api.Kept{
		kept(api.Key{Space: 258, Name: "ab"}, 1000, value(-300)),
		kept(named(""), 0, failure(1, 700, 150)),
		kept(longest, 999, failure(2, 0, most)),
	},
}

// TestRead: a memo of three entries (20.2).
func TestRead(t *testing.T) {
	s, _ := join(three)
	reads(t, sealedByHand(s), threePlain)
}

// TestReadEdges: each number as small, and as great, as it may be (20.2).
func TestReadEdges(t *testing.T) {
	s, _ := join([]any{"convoy01", num(0), num(0), num(0), num(0), num(1), num(1), num(0), num(0), num(0)})
	reads(t, sealedByHand(s), plain{config: lowest})
	s, _ = join([]any{"convoy01", num(most), num(most), num(most), num(65536), num(4096), num(1024), num(most), num(maxTime), num(3),
		named("v"), num(maxTime), kind(0), sig(least),
		named("w"), num(0), kind(0), sig(most),
		named("x"), num(maxTime), kind(2), sig(least), num(1)})
	reads(t, sealedByHand(s), plain{greatest, maxTime, []api.Kept{
		kept(named("v"), maxTime, value(least)), kept(named("w"), 0, value(most)), kept(named("x"), maxTime, failure(2, least, 1)),
	}})
	one := []any{"convoy01", num(1), num(0), num(0), num(1), num(1), num(1), num(0), num(7), num(1), named("a"), num(7), kind(0), sig(0)}
	s, _ = join(one)
	reads(t, sealedByHand(s), plain{api.Config{TTL: 1, Entries: 1, Flight: 1, Batch: 1}, 7, []api.Kept{kept(named("a"), 7, value(0))}})
	one = []any{"convoy01", num(0), num(1), num(0), num(1), num(1), num(1), num(0), num(7), num(1), named("a"), num(7), kind(1), sig(0), num(most)}
	s, _ = join(one)
	reads(t, sealedByHand(s), plain{api.Config{Negative: 1, Entries: 1, Flight: 1, Batch: 1}, 7, []api.Kept{kept(named("a"), 7, failure(1, 0, most))}})
}

// TestReadBeginnings: of each beginning of a memo's bytes the place of the part that is not there whole (20.2).
func TestReadBeginnings(t *testing.T) {
	ahead, places := join(three)
	s := sealedByHand(ahead)
	for size := range s {
		part := 0
		for part+1 < len(places) && places[part+1] <= size {
			part++
		}
		refuses(t, s[:size], places[part], api.ErrBytes)
	}
	refuses(t, "", 0, api.ErrBytes)
}

// noNumbers is bytes at which no number stands, whatever comes behind them.
var noNumbers = []string{
	"\x80\x00", "\xff\x00", "\x85\x80\x00", strings.Repeat("\x80", 9) + "\x02", strings.Repeat("\xff", 9) + "\x7f",
	strings.Repeat("\x80", 10) + "\x01", strings.Repeat("\xff", 20) + "\x01",
}

// wrongParts is, for the parts of three, what may not stand in their place.
func wrongParts() map[int][]any {
	times := []any{num(most + 1), num(whole)}
	runs := []any{num(0), num(most + 1), num(whole)}
	kinds := []any{kind(3), kind(4), kind(5), kind(6), kind(127), kind(128), kind(255)}
	m := map[int][]any{
		0:          {"convoy02", "convoyp1", "Convoy01", "convoy0\x00", "\x00onvoy01", "con\x00oy01", "xxxxxxxx"},
		atTTL:      times,
		atNegative: times,
		atStale:    times,
		atEntries:  {num(65537), num(65538), num(most), num(1 << 32), num(most + 1), num(whole)},
		atFlight:   {num(0), num(4097), num(1<<32 + 1), num(most), num(1<<63 + 1), num(whole)},
		atBatch:    {num(0), num(1025), num(1<<32 + 1), num(most), num(1<<63 + 1), num(whole)},
		atWindow:   times,
		atNow:      {num(maxTime + 1), num(most), num(most + 1), num(whole)},
		atCount:    {num(401), num(402), num(65536), num(1 << 32), num(most), num(1<<63 + 3), num(whole)},
		atKey:      {"\x00\x00\x41" + strings.Repeat("k", 65), "\x00\x00\xff" + strings.Repeat("k", 255)},
		atTick:     {num(1001), num(1002), num(maxTime), num(most), num(1 << 63), num(whole)},
		atKey2:     {api.Key{Space: 258, Name: "ab"}, "\x00\x00\x41" + strings.Repeat("k", 65)},
		atTick2:    {num(1001), num(whole)},
		atRun2:     runs,
		atKey3:     {api.Key{Space: 258, Name: "ab"}, named(""), "\x00\x00\x80" + strings.Repeat("k", 128)},
		atTick3:    {num(1001), num(whole)},
		atRun3:     runs,
	}
	for _, at := range []int{atKind, atKind2, atKind3} {
		m[at] = kinds
	}
	for at := range three {
		switch three[at].(type) {
		case num, sig:
			for _, s := range noNumbers {
				m[at] = append(m[at], s)
			}
		}
	}
	return m
}

// TestReadWrong: each part wrong by itself, with the place of it, whatever the sum (20.2).
func TestReadWrong(t *testing.T) {
	_, places := join(three)
	seen := 0
	for at, l := range wrongParts() {
		for _, part := range l {
			s, _ := join(with(three, at, part))
			refuses(t, sealedByHand(s), places[at], api.ErrBytes)
			refuses(t, s+"12345678", places[at], api.ErrBytes)
			seen++
		}
	}
	if seen < 150 {
		t.Errorf("%d wrong parts", seen)
	}
}

// TestReadTwoWrong: of two wrong parts the first (20.2).
func TestReadTwoWrong(t *testing.T) {
	_, places := join(three)
	all := wrongParts()
	for at := range three {
		for behind := at + 1; behind < len(three); behind++ {
			if len(all[at]) == 0 || len(all[behind]) == 0 {
				continue
			}
			for _, part := range all[at] {
				parts := with(three, behind, all[behind][0])
				s, _ := join(with(parts, at, part))
				refuses(t, sealedByHand(s), places[at], api.ErrBytes)
			}
		}
	}
}

// TestReadKept: a kind with which nothing is kept is wrong: 0, if TTL is 0; the others, if Negative is 0 (20.2).
func TestReadKept(t *testing.T) {
	_, places := join(three)
	for _, x := range []struct{ part, kind int }{{atTTL, atKind}, {atNegative, atKind2}} {
		s, _ := join(with(three, x.part, num(0)))
		refuses(t, sealedByHand(s), places[x.kind]-1, api.ErrBytes) // 0 is a byte shorter
	}
	parts := []any{"convoy01", num(1), num(0), num(9), num(2), num(1), num(1), num(0), num(7), num(1), named("a"), num(7)}
	ahead, places := join(parts)
	at := places[len(parts)]
	for _, failing := range []string{"\x01\x00\x01", "\x02\x00\x01"} {
		refuses(t, sealedByHand(ahead+failing), at, api.ErrBytes)
	}
	reads(t, sealedByHand(ahead+"\x00\x00"), plain{api.Config{TTL: 1, Stale: 9, Entries: 2, Flight: 1, Batch: 1}, 7, []api.Kept{kept(named("a"), 7, value(0))}})
	ahead, _ = join(with(with(parts, atTTL, num(0)), atNegative, num(1)))
	refuses(t, sealedByHand(ahead+"\x00\x00"), at, api.ErrBytes)
	want := plain{api.Config{Negative: 1, Stale: 9, Entries: 2, Flight: 1, Batch: 1}, 7, nil}
	for k := 1; k <= 2; k++ {
		want.list = []api.Kept{kept(named("a"), 7, failure(k, 0, 1))}
		reads(t, sealedByHand(ahead+string([]byte{byte(k), 0, 1})), want)
	}
}

// TestReadEntries: no more than Entries (20.2).
func TestReadEntries(t *testing.T) {
	for entries := range 4 {
		parts := []any{"convoy01", num(5), num(0), num(0), num(entries), num(1), num(1), num(0), num(0), num(0)}
		want := plain{config: api.Config{TTL: 5, Entries: entries, Flight: 1, Batch: 1}}
		for n := range 6 {
			parts[atCount] = num(n)
			s, places := join(parts)
			if n > entries {
				refuses(t, sealedByHand(s), places[atCount], api.ErrBytes)
			} else {
				reads(t, sealedByHand(s), want)
			}
			k := api.Key{Space: uint16(n)}
			parts = append(parts, k, num(0), kind(0), sig(n))
			want.list = append(want.list, kept(k, 0, value(int64(n))))
		}
	}
}

// TestReadFewer: a count that is less than the entries, or more, is seen where it does not fit (20.2).
func TestReadFewer(t *testing.T) {
	_, places := join(three)
	s, _ := join(with(three, atCount, num(2)))
	refuses(t, sealedByHand(s), places[atKey3], api.ErrSum)
	s, _ = join(with(three, atCount, num(4)))
	bytes := sealedByHand(s)
	if m, at, err := snapshot.Read(bytes); m != nil || at < places[len(three)] || err != api.ErrBytes {
		t.Errorf("one entry more: %v, %d, %d", m, at, err)
	}
}

// TestReadSum: a sum that is there and another one, ahead of what is left; less than 8 bytes are none (20.2).
func TestReadSum(t *testing.T) {
	ahead, _ := join(three)
	s := sealedByHand(ahead)
	for i := range 8 {
		for bit := range 8 {
			b := []byte(s)
			b[len(ahead)+i] ^= 1 << bit
			refuses(t, string(b), len(ahead), api.ErrSum)
			refuses(t, string(b)+"more", len(ahead), api.ErrSum)
			refuses(t, string(b[:len(ahead)+i]), len(ahead), api.ErrBytes)
		}
	}
	refuses(t, ahead+"\x00\x00\x00\x00\x00\x00\x00\x00", len(ahead), api.ErrSum)
}

// TestReadLeft: something is left behind the sum (20.2).
func TestReadLeft(t *testing.T) {
	for _, parts := range [][]any{three, {"convoy01", num(0), num(0), num(0), num(0), num(1), num(1), num(0), num(0), num(0)}} {
		ahead, _ := join(parts)
		s := sealedByHand(ahead)
		for _, left := range []string{"\x00", "x", s, strings.Repeat("\xff", 8), eight(sumByHand(s))} {
			refuses(t, s+left, len(s), api.ErrBytes)
		}
	}
}

// TestReadTurned: of a memo's bytes of which one is turned over, at each place and in each way, none are read (20.2).
func TestReadTurned(t *testing.T) {
	ahead, _ := join(three)
	s := sealedByHand(ahead)
	for i := range s {
		for turn := 1; turn < 256; turn++ {
			b := []byte(s)
			b[i] ^= byte(turn)
			_, w := plainRead(string(b))
			if w.err == api.OK {
				t.Fatalf("by hand %q is read", b)
			}
			refuses(t, string(b), w.at, w.err)
		}
	}
}

// TestReadCut: of a memo's bytes of which one is cut away, at each place (20.2).
func TestReadCut(t *testing.T) {
	ahead, _ := join(three)
	s := sealedByHand(ahead)
	for i := range s {
		cut := s[:i] + s[i+1:]
		_, w := plainRead(cut)
		if w.err == api.OK {
			t.Fatalf("by hand %q is read", cut)
		}
		refuses(t, cut, w.at, w.err)
	}
}
