package retry_test

import (
	"fmt"
	"math"
	"slices"
	"strings"
	"testing"

	"convoy/api"
	"convoy/retry"
)

// The calls are those that the chapter lists: a change of one does not compile.
var (
	_ func(int, int64) (*retry.Breaker, api.Errno)  = retry.New
	_ func(*retry.Breaker, int64) (bool, api.Errno) = (*retry.Breaker).Ask
	_ func(*retry.Breaker, int64, bool) api.Errno   = (*retry.Breaker).Done
	_ func(*retry.Breaker, int64) int               = (*retry.Breaker).State
	_ func(*retry.Breaker) (int64, bool)            = (*retry.Breaker).Until
	_ func(*retry.Breaker) *retry.Breaker           = (*retry.Breaker).Clone
)

// noTicks is numbers that are no ticks.
var noTicks = []int64{-1, -2, -last, math.MinInt64, math.MinInt64 + 1, last + 1, last + 2, longest}

// of makes a breaker.
func of(t *testing.T, fails int, cool int64) *retry.Breaker {
	t.Helper()
	b, err := retry.New(fails, cool)
	if b == nil || err != api.OK {
		t.Fatalf("New(%d, %d): %v, %d", fails, cool, b, err)
	}
	return b
}

// ask asks whether one may try.
func ask(t *testing.T, b *retry.Breaker, now int64, want bool) {
	t.Helper()
	if got, err := b.Ask(now); got != want || err != api.OK {
		t.Fatalf("Ask(%d): %t, %d, not %t", now, got, err, want)
	}
}

// done tells that a try is done.
func done(t *testing.T, b *retry.Breaker, now int64, fine bool) {
	t.Helper()
	if err := b.Done(now, fine); err != api.OK {
		t.Fatalf("Done(%d, %t): %d", now, fine, err)
	}
}

// fail tells that some tries failed, at one tick.
func fail(t *testing.T, b *retry.Breaker, now int64, tries int) {
	t.Helper()
	for range tries {
		done(t, b, now, false)
	}
}

// refuse looks that some ticks can not be told, with an error.
func refuse(t *testing.T, b *retry.Breaker, want api.Errno, ticks ...int64) {
	t.Helper()
	for _, now := range ticks {
		if got, err := b.Ask(now); got || err != want {
			t.Fatalf("Ask(%d): %t, %d, not %d", now, got, err, want)
		}
		for _, fine := range []bool{true, false} {
			if err := b.Done(now, fine); err != want {
				t.Fatalf("Done(%d, %t): %d, not %d", now, fine, err, want)
			}
		}
	}
}

// state holds what can be asked of a breaker without a change against what it should be, at ticks of all kinds.
func state(t *testing.T, b *retry.Breaker, want int, until int64) {
	t.Helper()
	for _, now := range []int64{0, 1, 2, until - 1, until, until + 1, last - 1, last} {
		if now >= 0 && now <= last && b.State(now) != want {
			t.Fatalf("State(%d): %d, not %d", now, b.State(now), want)
		}
	}
	for _, now := range noTicks {
		if got := b.State(now); got != 0 {
			t.Fatalf("State(%d): %d", now, got)
		}
	}
	if at, open := b.Until(); at != until || open != (want == api.BreakOpen) {
		t.Fatalf("Until: %d, %t, not %d, of the state %d", at, open, until, want)
	}
}

func isShut(t *testing.T, b *retry.Breaker) { t.Helper(); state(t, b, api.BreakShut, 0) }
func isOpen(t *testing.T, b *retry.Breaker, until int64) {
	t.Helper()
	state(t, b, api.BreakOpen, until)
}
func isHalf(t *testing.T, b *retry.Breaker) { t.Helper(); state(t, b, api.BreakHalf, 0) }

// told looks which tick was told last, without a change.
func told(t *testing.T, b *retry.Breaker, now int64) {
	t.Helper()
	if now > 0 {
		refuse(t, b, api.ErrBack, now-1, now/2, 0)
	}
	if _, err := b.Clone().Ask(now); err != api.OK {
		t.Fatalf("Ask(%d): %d", now, err)
	}
	for _, fine := range []bool{true, false} {
		if err := b.Clone().Done(now, fine); err != api.OK {
			t.Fatalf("Done(%d, %t): %d", now, fine, err)
		}
	}
}

// ways is a text of all that a breaker can answer within some calls, from clones of it: of two that are the same it is the same.
func ways(b *retry.Breaker, calls int) string {
	var text strings.Builder
	at, open := b.Until()
	fmt.Fprint(&text, "(", b.State(0), at, open)
	if calls > 0 {
		for _, now := range []int64{0, 3, 7, 8, 12, 13, last} {
			for _, do := range []func(b *retry.Breaker) (bool, api.Errno){
				func(b *retry.Breaker) (bool, api.Errno) { return b.Ask(now) },
				func(b *retry.Breaker) (bool, api.Errno) { return false, b.Done(now, true) },
				func(b *retry.Breaker) (bool, api.Errno) { return false, b.Done(now, false) },
			} {
				twin := b.Clone()
				may, err := do(twin)
				fmt.Fprint(&text, may, err, ways(twin, calls-1))
			}
		}
	}
	return text.String() + ")"
}

// stage is a breaker of 3 and 5 on its way, and what it is there.
type stage struct {
	name  string
	make  func(t *testing.T) *retry.Breaker
	state int
	until int64
	now   int64
}

// stages is a breaker of 3 and 5 at each of its states.
var stages = []stage{
	{"new", func(t *testing.T) *retry.Breaker { return of(t, 3, 5) }, api.BreakShut, 0, 0},
	{"asked", func(t *testing.T) *retry.Breaker { b := of(t, 3, 5); ask(t, b, 7, true); return b }, api.BreakShut, 0, 7},
	{"one failed", func(t *testing.T) *retry.Breaker { b := of(t, 3, 5); fail(t, b, 7, 1); return b }, api.BreakShut, 0, 7},
	{"two failed", func(t *testing.T) *retry.Breaker { b := of(t, 3, 5); fail(t, b, 7, 2); return b }, api.BreakShut, 0, 7},
	{"open", openAt7, api.BreakOpen, 12, 7},
	{"open, asked ahead of Until", func(t *testing.T) *retry.Breaker { b := openAt7(t); ask(t, b, 11, false); return b }, api.BreakOpen, 12, 11},
	{"open, done at Until", func(t *testing.T) *retry.Breaker { b := openAt7(t); done(t, b, 12, true); return b }, api.BreakOpen, 12, 12},
	{"half", halfAt12, api.BreakHalf, 0, 12},
	{"half, asked again", func(t *testing.T) *retry.Breaker { b := halfAt12(t); ask(t, b, 13, false); return b }, api.BreakHalf, 0, 13},
	{"shut again", func(t *testing.T) *retry.Breaker { b := halfAt12(t); done(t, b, 13, true); return b }, api.BreakShut, 0, 13},
	{"open again", func(t *testing.T) *retry.Breaker { b := halfAt12(t); done(t, b, 13, false); return b }, api.BreakOpen, 18, 13},
	{"at the last tick", func(t *testing.T) *retry.Breaker { b := of(t, 3, 5); fail(t, b, last, 3); return b }, api.BreakOpen, last, last},
}

func openAt7(t *testing.T) *retry.Breaker {
	b := of(t, 3, 5)
	fail(t, b, 7, 3)
	return b
}

func halfAt12(t *testing.T) *retry.Breaker {
	b := openAt7(t)
	ask(t, b, 12, true)
	return b
}

// is holds a breaker against its stage.
func (s stage) is(t *testing.T, b *retry.Breaker) {
	t.Helper()
	state(t, b, s.state, s.until)
	told(t, b, s.now)
}

// TestNew: the least and the greatest that may be; it is shut, and no tick was told (17.2).
func TestNew(t *testing.T) {
	for _, fails := range []int{1, 2, 3, 1000, math.MaxInt - 1, math.MaxInt} {
		for _, cool := range []int64{0, 1, 2, last - 1, last, last + 1, longest} {
			b := of(t, fails, cool)
			isShut(t, b)
			told(t, b, 0)
			ask(t, b, 0, true)
			isShut(t, b)
		}
	}
}

// TestNewWrong: fails or cool that may not be, or both (17.2).
func TestNewWrong(t *testing.T) {
	noFails, noCools := []int{0, -1, -2, math.MinInt}, []int64{-1, -2, -last, math.MinInt64}
	wrong := func(fails int, cool int64) {
		t.Helper()
		if b, err := retry.New(fails, cool); b != nil || err != api.ErrArg {
			t.Errorf("New(%d, %d): %v, %d", fails, cool, b, err)
		}
	}
	for _, fails := range noFails {
		for _, cool := range append(noCools, 0, 1, longest) {
			wrong(fails, cool)
		}
	}
	for _, cool := range noCools {
		for _, fails := range []int{1, 2, math.MaxInt} {
			wrong(fails, cool)
		}
	}
}

// TestNewApart: two breakers know nothing of one another (R5).
func TestNewApart(t *testing.T) {
	x, y := of(t, 1, 5), of(t, 1, 5)
	fail(t, x, 7, 1)
	isOpen(t, x, 12)
	isShut(t, y)
	told(t, y, 0)
	fail(t, y, 3, 1)
	isOpen(t, x, 12)
	isOpen(t, y, 8)
}

// TestStages: each state is what it should be, and asking for it does not alter it (17.3).
func TestStages(t *testing.T) {
	for _, s := range stages {
		t.Run(s.name, func(t *testing.T) {
			b := s.make(t)
			s.is(t, b)
			s.is(t, b)
		})
	}
}

// TestNoTick: ticks that may not be, in every state, are ErrTick and change nothing (17.2).
func TestNoTick(t *testing.T) {
	for _, s := range stages {
		t.Run(s.name, func(t *testing.T) {
			b := s.make(t)
			before := ways(b, 2)
			refuse(t, b, api.ErrTick, noTicks...)
			if ways(b, 2) != before {
				t.Fatal("it was changed")
			}
			s.is(t, b)
		})
	}
}

// TestBack: ticks below one that was told, in every state, are ErrBack and change nothing; the one that was told may be told again (17.2).
func TestBack(t *testing.T) {
	for _, s := range stages {
		t.Run(s.name, func(t *testing.T) {
			b := s.make(t)
			before := ways(b, 2)
			for _, now := range []int64{0, 1, 6, s.now - 2, s.now - 1} {
				if now >= 0 && now < s.now {
					refuse(t, b, api.ErrBack, now)
				}
			}
			if ways(b, 2) != before {
				t.Fatal("it was changed")
			}
			s.is(t, b)
		})
	}
}

// TestTold: by Ask and by Done, in every state, whatever they answer with OK; what State asks for is not told (17.2, 17.3).
func TestTold(t *testing.T) {
	tells := []func(b *retry.Breaker, now int64){
		func(b *retry.Breaker, now int64) { b.Ask(now) },
		func(b *retry.Breaker, now int64) { b.Done(now, true) },
		func(b *retry.Breaker, now int64) { b.Done(now, false) },
	}
	for _, s := range stages {
		for _, tell := range tells {
			for _, now := range []int64{s.now, s.now + 1, s.now + 4, s.now + 100, last - 1, last} {
				if now < s.now || now > last {
					continue
				}
				b := s.make(t)
				b.State(last)
				told(t, b, s.now)
				tell(b, now)
				told(t, b, now)
			}
		}
	}
}

// TestShutCounts: it stays shut with one failure less than Fails, and is open with just Fails of them (17.2).
func TestShutCounts(t *testing.T) {
	for _, fails := range []int{1, 2, 3, 10, 100} {
		b := of(t, fails, 5)
		for i := range fails - 1 {
			done(t, b, int64(i), false)
			isShut(t, b)
			ask(t, b, int64(i), true)
		}
		done(t, b, 200, false)
		isOpen(t, b, 205)
		ask(t, b, 200, false)
	}
}

// TestShutFineBetween: a fine try begins the count anew, so that only Fails behind one another open it (17.2).
func TestShutFineBetween(t *testing.T) {
	for _, fails := range []int{2, 3, 10} {
		for some := range fails {
			b := of(t, fails, 5)
			fail(t, b, 1, some)
			done(t, b, 1, true)
			isShut(t, b)
			fail(t, b, 2, fails-1)
			isShut(t, b)
			done(t, b, 2, true)
			done(t, b, 2, true)
			fail(t, b, 3, fails-1)
			isShut(t, b)
			fail(t, b, 4, 1)
			isOpen(t, b, 9)
		}
	}
}

// TestShutAskCountsNothing: an asking is neither a failure nor a fine try (17.2).
func TestShutAskCountsNothing(t *testing.T) {
	b := of(t, 2, 5)
	for range 10 {
		ask(t, b, 1, true)
	}
	isShut(t, b)
	fail(t, b, 1, 1)
	for range 10 {
		ask(t, b, 1, true)
	}
	isShut(t, b)
	fail(t, b, 1, 1)
	isOpen(t, b, 6)
}

// TestShutManyFails: it never opens where so many can not fail (17.2).
func TestShutManyFails(t *testing.T) {
	b := of(t, math.MaxInt, 0)
	fail(t, b, last, 100000)
	isShut(t, b)
	ask(t, b, last, true)
}

// TestOpen: ahead of, at and behind Until, asked and not asked (17.2, 17.3).
func TestOpen(t *testing.T) {
	for _, cool := range []int64{1, 2, 5, 1000} {
		for _, at := range []int64{0, 1, 7} {
			until := at + cool
			for _, late := range []int64{0, 1, 50, last - until} {
				b := of(t, 1, cool)
				fail(t, b, at, 1)
				isOpen(t, b, until)
				ask(t, b, at, false)
				ask(t, b, until-1, false)
				isOpen(t, b, until)
				ask(t, b, until+late, true)
				isHalf(t, b)
			}
		}
	}
}

// TestOpenWithoutCool: the first asking, at the same tick, makes it half (17.2).
func TestOpenWithoutCool(t *testing.T) {
	for _, at := range []int64{0, 1, last} {
		b := of(t, 1, 0)
		for range 3 {
			fail(t, b, at, 1)
			isOpen(t, b, at)
			ask(t, b, at, true)
			isHalf(t, b)
			ask(t, b, at, false)
		}
		done(t, b, at, true)
		isShut(t, b)
	}
}

// TestOpenDone: a try that is done while it is open does nothing, ahead of Until and behind it (17.2).
func TestOpenDone(t *testing.T) {
	for _, fine := range []bool{true, false} {
		b := openAt7(t)
		for _, now := range []int64{7, 11, 12, 13, 100} {
			for range 4 {
				done(t, b, now, fine)
				isOpen(t, b, 12)
			}
		}
		ask(t, b, 100, true)
		isHalf(t, b)
		// What was done while it was open counts for nothing when it is shut again.
		done(t, b, 100, true)
		fail(t, b, 100, 2)
		isShut(t, b)
		fail(t, b, 100, 1)
		isOpen(t, b, 105)
	}
}

// TestHalf: one try is let through alone, however long it takes (17.2).
func TestHalf(t *testing.T) {
	b := halfAt12(t)
	for _, now := range []int64{12, 13, 17, 18, 1000, last} {
		ask(t, b, now, false)
		ask(t, b, now, false)
		isHalf(t, b)
	}
}

// TestHalfFine: it is shut, with no failures (17.2).
func TestHalfFine(t *testing.T) {
	b := halfAt12(t)
	done(t, b, 13, true)
	isShut(t, b)
	ask(t, b, 13, true)
	ask(t, b, 13, true)
	fail(t, b, 14, 2)
	isShut(t, b)
	fail(t, b, 20, 1)
	isOpen(t, b, 25)
}

// TestHalfFails: one failure opens it, for Cool ticks from then on, again and again (17.2).
func TestHalfFails(t *testing.T) {
	b := halfAt12(t)
	for _, now := range []int64{12, 17, 40, 1000} {
		fail(t, b, now, 1)
		isOpen(t, b, now+5)
		ask(t, b, now+4, false)
		ask(t, b, now+5, true)
		isHalf(t, b)
	}
	done(t, b, 1005, true)
	isShut(t, b)
	fail(t, b, 1005, 2)
	isShut(t, b)
}

// TestUntilAtTheEnd: Until is the last tick, where now and Cool together are above it (17.2).
func TestUntilAtTheEnd(t *testing.T) {
	for _, c := range []struct{ now, cool, until int64 }{
		{0, last - 1, last - 1}, {0, last, last}, {0, last + 1, last}, {0, longest, last},
		{1, last - 1, last}, {1, last, last}, {last - 1, 0, last - 1}, {last - 1, 1, last}, {last - 1, 2, last},
		{last, 0, last}, {last, 1, last}, {last, last, last}, {last, longest, last}, {last / 2, last / 2, last}, {last / 2, last/2 + 1, last},
	} {
		b := of(t, 1, c.cool)
		fail(t, b, c.now, 1)
		isOpen(t, b, c.until)
		if c.until > c.now {
			ask(t, b, c.until-1, false)
		}
		ask(t, b, c.until, true)
		isHalf(t, b)
		fail(t, b, c.until, 1)
		isOpen(t, b, int64(min(uint64(c.until)+uint64(c.cool), last)))
	}
}

// TestClone: the clone is the same, and neither of the two sees what is done with the other (17.3).
func TestClone(t *testing.T) {
	changes := []func(b *retry.Breaker){
		func(b *retry.Breaker) { b.Ask(last) },
		func(b *retry.Breaker) { b.Done(last, true) },
		func(b *retry.Breaker) { b.Done(last, false); b.Done(last, false); b.Done(last, false) },
		func(b *retry.Breaker) { b.Ask(last); b.Done(last, false) },
		func(b *retry.Breaker) { b.Ask(last); b.Done(last, true) },
	}
	for _, s := range stages {
		for _, change := range changes {
			b := s.make(t)
			before := ways(b, 2)
			twin := b.Clone()
			if twin == nil || twin == b {
				t.Fatal("Clone: nil, or the breaker itself")
			}
			s.is(t, twin)
			change(twin)
			if ways(b, 2) != before {
				t.Fatalf("%s: changed with its clone", s.name)
			}
			twin = b.Clone()
			change(b)
			if ways(twin, 2) != before {
				t.Fatalf("%s: changed with what it is a clone of", s.name)
			}
			s.is(t, twin)
		}
	}
}

// TestCloneHasFailsAndCool: as many failures open the clone, for as long (17.3).
func TestCloneHasFailsAndCool(t *testing.T) {
	for _, fails := range []int{1, 2, 5} {
		for _, cool := range []int64{0, 1, 7, last} {
			b := of(t, fails, cool)
			for now := range int64(fails - 1) {
				fail(t, b, now, 1)
				b = b.Clone()
				isShut(t, b)
			}
			fail(t, b, 10, 1)
			isOpen(t, b.Clone(), min(10+cool, last))
		}
	}
}

// TestNil: every call on a nil Breaker, ahead of ticks that may not be (17.3).
func TestNil(t *testing.T) {
	var b *retry.Breaker
	for range 2 {
		refuse(t, b, api.ErrArg, slices.Concat(noTicks, []int64{0, 1, last})...)
		state(t, b, 0, 0)
		if twin := b.Clone(); twin != nil {
			t.Fatalf("Clone: %v", twin)
		}
	}
}

// TestZero: a breaker that no call gave does no harm (R1).
func TestZero(t *testing.T) {
	for _, b := range []*retry.Breaker{new(retry.Breaker), new(retry.Breaker).Clone()} {
		for _, now := range append(noTicks, 3, 2, 3, last) {
			b.Ask(now)
			b.Done(now, true)
			b.Done(now, false)
			b.State(now)
			b.Until()
		}
	}
}
