package record_test

import (
	"math"
	"slices"
	"strings"
	"testing"

	"convoy/api"
	"convoy/record"
)

// The calls are those that the chapter lists: a change of one does not compile.
var (
	_ func(api.Run, int) (*record.Record, api.Errno)            = record.New
	_ func(*record.Record) api.Run                              = (*record.Record).Run
	_ func(*record.Record, int) api.Errno                       = (*record.Record).Join
	_ func(*record.Record, int) (bool, api.Errno)               = (*record.Record).Leave
	_ func(*record.Record) bool                                 = (*record.Record).Release
	_ func(*record.Record) []int                                = (*record.Record).Waiters
	_ func(*record.Record, int) bool                            = (*record.Record).Waits
	_ func(*record.Record) int                                  = (*record.Record).Interest
	_ func(*record.Record) bool                                 = (*record.Record).Cancelled
	_ func(*record.Record) bool                                 = (*record.Record).Ended
	_ func(*record.Record) (api.Outcome, bool)                  = (*record.Record).Outcome
	_ func(*record.Record, api.Outcome) ([]api.Told, api.Errno) = (*record.Record).End
	_ func(*record.Record) *record.Record                       = (*record.Record).Clone
)

// asked and renewed are a run that callers ask for, and a refresh; no two of their numbers are the same.
var (
	asked   = api.Run{Run: 4, Key: api.Key{Space: 7, Name: "a"}, Generation: 3}
	renewed = api.Run{Run: 5, Key: api.Key{Space: 8, Name: "b"}, Generation: 2, Refresh: true}
)

// noCallers is numbers that no caller has.
var noCallers = []int{0, -1, -2, math.MinInt, math.MinInt + 1}

// others is callers that no test lets wait but as those who do not.
var others = []int{77, 78, 1 << 32, math.MaxInt - 1}

// state is all that can be asked of a record.
type state struct {
	run       api.Run
	waiters   []int
	interest  int
	cancelled bool
	ended     bool
	outcome   api.Outcome
}

// same holds all that can be asked of a record against what it should be.
func same(t *testing.T, r *record.Record, want state) {
	t.Helper()
	if got := r.Run(); got != want.run {
		t.Fatalf("Run: %+v, not %+v", got, want.run)
	}
	if got := r.Waiters(); !slices.Equal(got, want.waiters) {
		t.Fatalf("Waiters: %v, not %v", got, want.waiters)
	}
	if got := r.Interest(); got != want.interest {
		t.Fatalf("Interest: %d, not %d, of %v", got, want.interest, want.waiters)
	}
	if r.Cancelled() != want.cancelled || r.Ended() != want.ended {
		t.Fatalf("Cancelled, Ended: %t, %t, not %t, %t", r.Cancelled(), r.Ended(), want.cancelled, want.ended)
	}
	if got, ok := r.Outcome(); got != want.outcome || ok != want.ended {
		t.Fatalf("Outcome: %v, %t, not %v, %t", got, ok, want.outcome, want.ended)
	}
	for _, caller := range want.waiters {
		if !r.Waits(caller) {
			t.Fatalf("Waits(%d): false, of %v", caller, want.waiters)
		}
	}
	for caller := -1; caller < 20; caller++ {
		if got := r.Waits(caller); got != slices.Contains(want.waiters, caller) {
			t.Fatalf("Waits(%d): %t, of %v", caller, got, want.waiters)
		}
	}
	for _, caller := range slices.Concat(noCallers, others) {
		if r.Waits(caller) {
			t.Fatalf("Waits(%d): true, of %v", caller, want.waiters)
		}
	}
}

// waited is the state of a run in progress for which some callers wait.
func waited(callers ...int) state {
	return state{run: asked, waiters: callers, interest: len(callers), cancelled: len(callers) == 0}
}

// kept is the state of a refresh in progress whose entry is kept, and for which some callers wait.
func kept(callers ...int) state {
	return state{run: renewed, waiters: callers, interest: len(callers) + 1}
}

// released is the state of a refresh in progress whose entry is kept no more.
func released(callers ...int) state {
	return state{run: renewed, waiters: callers, interest: len(callers), cancelled: len(callers) == 0}
}

// over is the state of a run that has ended.
func over(run api.Run, cancelled bool, o api.Outcome) state {
	return state{run: run, cancelled: cancelled, ended: true, outcome: o}
}

// begin makes a record.
func begin(t *testing.T, run api.Run, caller int) *record.Record {
	t.Helper()
	r, err := record.New(run, caller)
	if r == nil || err != api.OK {
		t.Fatalf("New(%+v, %d): %v, %d", run, caller, r, err)
	}
	return r
}

// of makes a record for which callers wait, the first ahead.
func of(t *testing.T, callers ...int) *record.Record {
	t.Helper()
	r := begin(t, asked, callers[0])
	join(t, r, callers[1:]...)
	return r
}

// refresh makes a record of a refresh whose entry is kept, and for which callers wait.
func refresh(t *testing.T, callers ...int) *record.Record {
	t.Helper()
	r := begin(t, renewed, 0)
	join(t, r, callers...)
	return r
}

// join lets callers wait, one behind the other.
func join(t *testing.T, r *record.Record, callers ...int) {
	t.Helper()
	for _, caller := range callers {
		if err := r.Join(caller); err != api.OK {
			t.Fatalf("Join(%d): %d", caller, err)
		}
	}
}

// noJoin looks that callers can not join, with an error.
func noJoin(t *testing.T, r *record.Record, want api.Errno, callers ...int) {
	t.Helper()
	for _, caller := range callers {
		if err := r.Join(caller); err != want {
			t.Fatalf("Join(%d): %d, not %d", caller, err, want)
		}
	}
}

// leave lets callers leave, none of whom is the last one.
func leave(t *testing.T, r *record.Record, callers ...int) {
	t.Helper()
	for _, caller := range callers {
		if is, err := r.Leave(caller); is || err != api.OK {
			t.Fatalf("Leave(%d): %t, %d", caller, is, err)
		}
	}
}

// leaveLast lets the last one leave who is interested.
func leaveLast(t *testing.T, r *record.Record, caller int) {
	t.Helper()
	if is, err := r.Leave(caller); !is || err != api.OK {
		t.Fatalf("Leave(%d): %t, %d", caller, is, err)
	}
}

// noLeave looks that callers can not leave, with an error.
func noLeave(t *testing.T, r *record.Record, want api.Errno, callers ...int) {
	t.Helper()
	for _, caller := range callers {
		if is, err := r.Leave(caller); is || err != want {
			t.Fatalf("Leave(%d): %t, %d, not %d", caller, is, err, want)
		}
	}
}

// release lets the entry go, and holds whether that cancels against what should be.
func release(t *testing.T, r *record.Record, want bool) {
	t.Helper()
	if got := r.Release(); got != want {
		t.Fatalf("Release: %t, not %t", got, want)
	}
}

// TestNumbers: the errors have the numbers that the chapter lists.
func TestNumbers(t *testing.T) {
	got := []api.Errno{api.ErrEnded, api.ErrWaiting, api.ErrAway, api.ErrLeft}
	if !slices.Equal(got, []api.Errno{110, 111, 112, 113}) {
		t.Errorf("the errors: %v", got)
	}
}

// TestNew: a caller waits for a run, its entry alone for a refresh, at the edges of all numbers (11.1).
func TestNew(t *testing.T) {
	long := strings.Repeat("n", 64)
	for _, run := range []int{1, 2, 1 << 33, math.MaxInt} {
		for _, generation := range []int{0, 1, 1 << 33, math.MaxInt} {
			for _, k := range []api.Key{{}, {Space: math.MaxUint16, Name: long}, {Name: "a\x00\xff"}} {
				want := api.Run{Run: run, Key: k, Generation: generation}
				for _, caller := range []int{1, 2, 1 << 33, math.MaxInt} {
					same(t, begin(t, want, caller), state{run: want, waiters: []int{caller}, interest: 1})
				}
				want.Refresh = true
				same(t, begin(t, want, 0), state{run: want, interest: 1})
			}
		}
	}
}

// TestNewAsksNothingOfTheKey: of the key the chapter asks nothing (11.1).
func TestNewAsksNothingOfTheKey(t *testing.T) {
	want := api.Run{Run: 1, Key: api.Key{Name: strings.Repeat("n", 65)}}
	same(t, begin(t, want, 9), state{run: want, waiters: []int{9}, interest: 1})
}

// noRecord looks that New makes none.
func noRecord(t *testing.T, run api.Run, caller int) {
	t.Helper()
	if r, err := record.New(run, caller); r != nil || err != api.ErrArg {
		t.Fatalf("New(%+v, %d): %v, %d", run, caller, r, err)
	}
}

// TestNewWrong: each wrong number alone, and all together (11.1).
func TestNewWrong(t *testing.T) {
	below := []int{-1, -2, math.MinInt, math.MinInt + 1}
	for _, wrong := range append(below, 0) {
		noRecord(t, api.Run{Run: wrong}, 1)
		noRecord(t, api.Run{Run: wrong, Refresh: true}, 0)
	}
	for _, wrong := range below {
		noRecord(t, api.Run{Run: 1, Generation: wrong}, 1)
		noRecord(t, api.Run{Run: 1, Generation: wrong, Refresh: true}, 0)
		noRecord(t, api.Run{Run: 1}, wrong)
		noRecord(t, api.Run{Run: 1, Refresh: true}, wrong)
		noRecord(t, api.Run{Run: wrong, Generation: wrong}, wrong)
		noRecord(t, api.Run{Run: wrong, Generation: wrong, Refresh: true}, wrong)
	}
	noRecord(t, api.Run{Run: 1}, 0)
	noRecord(t, api.Run{}, 0)
	for _, caller := range []int{1, 2, math.MaxInt} {
		noRecord(t, api.Run{Run: 1, Refresh: true}, caller)
	}
}

// TestJoin: who joins waits behind the others, of a refresh too, whatever the callers' numbers (11.2, 11.3).
func TestJoin(t *testing.T) {
	r := of(t, 5)
	same(t, r, waited(5))
	join(t, r, 9)
	same(t, r, waited(5, 9))
	join(t, r, 1, math.MaxInt, 7)
	same(t, r, waited(5, 9, 1, math.MaxInt, 7))
	r = refresh(t)
	join(t, r, 3)
	same(t, r, kept(3))
	join(t, r, 2)
	same(t, r, kept(3, 2))
	release(t, r, false)
	join(t, r, 1)
	same(t, r, released(3, 2, 1))
}

// TestJoinWrong: who may not join changes nothing; of several errors the first that the chapter names is told (11.2).
func TestJoinWrong(t *testing.T) {
	r := of(t, 5, 6)
	noJoin(t, r, api.ErrArg, noCallers...)
	noJoin(t, r, api.ErrWaiting, 5, 6, 5)
	same(t, r, waited(5, 6))

	leave(t, r, 5)
	leaveLast(t, r, 6)
	noJoin(t, r, api.ErrArg, noCallers...)
	noJoin(t, r, api.ErrLeft, 5, 6, 7, 1, math.MaxInt)
	same(t, r, waited())

	end(t, r, value(3))
	noJoin(t, r, api.ErrArg, noCallers...)
	noJoin(t, r, api.ErrEnded, 5, 6, 7, 1, math.MaxInt)
	same(t, r, over(asked, true, value(3)))

	r = of(t, 5, 6)
	end(t, r, value(3), 5, 6)
	noJoin(t, r, api.ErrArg, noCallers...)
	noJoin(t, r, api.ErrEnded, 5, 6, 7, 1, math.MaxInt)
	same(t, r, over(asked, false, value(3)))

	r = refresh(t, 5)
	noJoin(t, r, api.ErrArg, noCallers...)
	noJoin(t, r, api.ErrWaiting, 5)
	same(t, r, kept(5))
	leave(t, r, 5)
	release(t, r, true)
	noJoin(t, r, api.ErrLeft, 5, 6)
	same(t, r, released())
}

// TestLeave: who leaves waits no more; the others keep their order; the last one cancels (11.2, 11.3).
func TestLeave(t *testing.T) {
	r := of(t, 5, 6, 7, 8)
	leave(t, r, 6)
	same(t, r, waited(5, 7, 8))
	leave(t, r, 5)
	same(t, r, waited(7, 8))
	leave(t, r, 8)
	same(t, r, waited(7))
	leaveLast(t, r, 7)
	same(t, r, waited())
	leaveLast(t, of(t, 5), 5)
}

// TestLeaveWrong: who does not wait can not leave, and changes nothing, nor can anybody behind the end (11.2).
func TestLeaveWrong(t *testing.T) {
	r := of(t, 5, 6, 7)
	noLeave(t, r, api.ErrAway, noCallers...)
	noLeave(t, r, api.ErrAway, others...)
	same(t, r, waited(5, 6, 7))
	leave(t, r, 6)
	noLeave(t, r, api.ErrAway, 6, 6)
	same(t, r, waited(5, 7))
	leave(t, r, 5)
	leaveLast(t, r, 7)
	noLeave(t, r, api.ErrAway, 5, 6, 7, 8, 0, -1)
	same(t, r, waited())
	end(t, r, load(3))
	noLeave(t, r, api.ErrEnded, 5, 6, 7, 8, 0, -1, math.MinInt, math.MaxInt)
	same(t, r, over(asked, true, load(3)))

	r = of(t, 5, 6)
	end(t, r, value(1), 5, 6)
	noLeave(t, r, api.ErrEnded, 5, 6, 7, 0, -1, math.MinInt, math.MaxInt)
	same(t, r, over(asked, false, value(1)))

	r = refresh(t)
	noLeave(t, r, api.ErrAway, 1, 5)
	noLeave(t, r, api.ErrAway, noCallers...)
	same(t, r, kept())
}

// TestLeaveRefresh: the last one who leaves a refresh cancels it only if its entry is kept no more (11.2).
func TestLeaveRefresh(t *testing.T) {
	r := refresh(t, 5, 6)
	leave(t, r, 5, 6)
	same(t, r, kept())
	join(t, r, 6)
	same(t, r, kept(6))
	release(t, r, false)
	same(t, r, released(6))
	join(t, r, 5)
	leave(t, r, 6)
	same(t, r, released(5))
	leaveLast(t, r, 5)
	same(t, r, released())
}

// TestBackAgain: who left may join anew while somebody is interested, and stands behind the others then (11.2, 11.3).
func TestBackAgain(t *testing.T) {
	r := of(t, 5, 6, 7)
	leave(t, r, 5)
	join(t, r, 5)
	same(t, r, waited(6, 7, 5))
	leave(t, r, 7)
	same(t, r, waited(6, 5))
	join(t, r, 7)
	same(t, r, waited(6, 5, 7))
	leave(t, r, 6, 5)
	join(t, r, 6, 5)
	same(t, r, waited(7, 6, 5))
	noJoin(t, r, api.ErrWaiting, 5, 6, 7)
	end(t, r, value(1), 7, 6, 5)
}

// TestRelease: of no refresh, of one with and without callers, twice, and behind the end (11.2).
func TestRelease(t *testing.T) {
	r := of(t, 5)
	release(t, r, false)
	release(t, r, false)
	same(t, r, waited(5))
	leaveLast(t, r, 5)
	release(t, r, false)
	same(t, r, waited())

	r = refresh(t)
	release(t, r, true)
	same(t, r, released())
	release(t, r, false)
	release(t, r, false)
	same(t, r, released())

	r = refresh(t, 5)
	release(t, r, false)
	release(t, r, false)
	same(t, r, released(5))
	leaveLast(t, r, 5)
	release(t, r, false)
	same(t, r, released())
}

// TestReleaseBehindTheEnd: it tells and changes nothing (11.2).
func TestReleaseBehindTheEnd(t *testing.T) {
	r := refresh(t)
	end(t, r, value(1))
	release(t, r, false)
	same(t, r, over(renewed, false, value(1)))

	r = refresh(t, 5)
	end(t, r, value(1), 5)
	release(t, r, false)
	release(t, r, false)
	same(t, r, over(renewed, false, value(1)))

	r = refresh(t, 5)
	release(t, r, false)
	end(t, r, value(1), 5)
	release(t, r, false)
	same(t, r, over(renewed, false, value(1)))

	r = of(t, 5)
	end(t, r, value(1), 5)
	release(t, r, false)
	same(t, r, over(asked, false, value(1)))

	r = refresh(t)
	release(t, r, true)
	end(t, r, value(1))
	release(t, r, false)
	same(t, r, over(renewed, true, value(1)))
}
