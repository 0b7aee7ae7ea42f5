package leave_test

import (
	"math"
	"slices"
	"testing"

	"convoy/api"
	"convoy/leave"
)

// mixed is seats of several runs by several tokens, none of them in the order of their numbers.
var mixed = []api.Seat{seat(6, 8, 3), seat(2, 7, 3), seat(9, 7, 0), seat(4, 8, 0), seat(1, 7, 3), seat(3, 9, 4), seat(8, 7, 5)}

// sorts answers those of some seats of which a test holds, and the others, each in their order.
func sorts(all []api.Seat, test func(x api.Seat) bool) (of, others []api.Seat) {
	for _, x := range all {
		if test(x) {
			of = append(of, x)
		} else {
			others = append(others, x)
		}
	}
	return of, others
}

// told holds a list of callers against what it should be.
func told(t *testing.T, what string, got []int, want ...int) {
	t.Helper()
	if !slices.Equal(got, want) {
		t.Fatalf("%s: %v, not %v", what, got, want)
	}
}

// TestOfAndBy: the callers of a run, and of a token, in the order in which they sat down (15.2).
func TestOfAndBy(t *testing.T) {
	s := seats(t, mixed...)
	told(t, "Of(7)", s.Of(7), 2, 9, 1, 8)
	told(t, "Of(8)", s.Of(8), 6, 4)
	told(t, "Of(9)", s.Of(9), 3)
	told(t, "By(0)", s.By(0), 9, 4)
	told(t, "By(3)", s.By(3), 6, 2, 1)
	told(t, "By(4)", s.By(4), 3)
	told(t, "By(5)", s.By(5), 8)
	for _, n := range append(slices.Clone(below), 1, 2, 6, 10, math.MaxInt) {
		told(t, "Of of none", s.Of(n))
		told(t, "By of none", s.By(n))
	}
	told(t, "Of(0)", s.Of(0))
	same(t, s, nil, mixed...)
}

// TestOfAndByAgain: one that stood up between others and sat down again is the last one (15.2).
func TestOfAndByAgain(t *testing.T) {
	s := seats(t, mixed...)
	stand(t, s, seat(9, 7, 0), seat(2, 7, 3))
	told(t, "Of(7)", s.Of(7), 1, 8)
	told(t, "By(3)", s.By(3), 6, 1)
	told(t, "By(0)", s.By(0), 4)
	sit(t, s, seat(2, 7, 3), seat(9, 7, 0))
	told(t, "Of(7)", s.Of(7), 1, 8, 2, 9)
	told(t, "By(3)", s.By(3), 6, 1, 2)
	told(t, "By(0)", s.By(0), 4, 9)
	stand(t, s, seat(1, 7, 3))
	sit(t, s, seat(1, 8, 0))
	told(t, "Of(7)", s.Of(7), 8, 2, 9)
	told(t, "Of(8)", s.Of(8), 6, 4, 1)
	told(t, "By(3)", s.By(3), 6, 2)
	told(t, "By(0)", s.By(0), 4, 9, 1)
	same(t, s, nil, mixed[0], mixed[3], mixed[5], mixed[6], seat(2, 7, 3), seat(9, 7, 0), seat(1, 8, 0))
}

// TestEnd: all seats of a run are told in order, and gone, those of others stay where they are (15.2).
func TestEnd(t *testing.T) {
	for _, run := range []int{7, 8, 9, 10} {
		s := seats(t, mixed...)
		of, others := sorts(mixed, func(x api.Seat) bool { return x.Run == run })
		end(t, s, run, of...)
		same(t, s, nil, others...)
		end(t, s, run)
		same(t, s, nil, others...)
		for _, x := range of {
			noStand(t, s, x.Caller)
		}
		sit(t, s, of...)
		same(t, s, nil, slices.Concat(others, of)...)
	}
}

// TestEndOfNone: a run that nobody has a seat of, and one that no seat may have (15.2).
func TestEndOfNone(t *testing.T) {
	s := leave.New()
	for range 2 {
		for _, run := range append(slices.Clone(below), 0, 1, 2, 3, 4, 5, 6, 10, math.MaxInt) {
			end(t, s, run)
		}
		if s.Len() == 0 {
			sit(t, s, mixed...)
		}
	}
	same(t, s, nil, mixed...)
}

// TestEndInPlace: a run in whose place another one sits down, and who sits down for one that has ended (15.2).
func TestEndInPlace(t *testing.T) {
	s := seats(t, seat(1, 7, 3), seat(2, 7, 0), seat(3, 8, 3))
	end(t, s, 7, seat(1, 7, 3), seat(2, 7, 0))
	sit(t, s, seat(2, 9, 0), seat(1, 9, 3))
	same(t, s, nil, seat(3, 8, 3), seat(2, 9, 0), seat(1, 9, 3))
	end(t, s, 7)
	sit(t, s, seat(4, 7, 3))
	same(t, s, nil, seat(3, 8, 3), seat(2, 9, 0), seat(1, 9, 3), seat(4, 7, 3))
	end(t, s, 9, seat(2, 9, 0), seat(1, 9, 3))
	end(t, s, 7, seat(4, 7, 3))
	end(t, s, 8, seat(3, 8, 3))
	same(t, s, nil)
}

// TestCancel: all seats with a token, of whatever runs, are told in order, and gone, and it is cancelled from then on (15.2).
func TestCancel(t *testing.T) {
	for _, token := range []int{3, 4, 5, 6, 1, math.MaxInt} {
		s := seats(t, mixed...)
		by, others := sorts(mixed, func(x api.Seat) bool { return x.Token == token })
		for range 3 {
			cancel(t, s, token, by...)
			same(t, s, tokens(token), others...)
			by = nil
		}
		noSit(t, s, api.ErrGone, seat(10, 7, token), seat(6, 8, token), seat(9, 9, token))
		same(t, s, tokens(token), others...)
	}
}

// TestCancelOfNone: 0 and numbers below it cancel nothing, and who has no token keeps the seat (15.2).
func TestCancelOfNone(t *testing.T) {
	s := leave.New()
	for range 2 {
		for _, token := range append(slices.Clone(below), 0) {
			cancel(t, s, token)
			cancel(t, s, token)
			if s.Cancelled(token) {
				t.Fatalf("%d is cancelled", token)
			}
		}
		if s.Len() == 0 {
			same(t, s, nil)
			sit(t, s, mixed...)
		}
	}
	same(t, s, nil, mixed...)
	sit(t, s, seat(10, 7, 0))
	same(t, s, nil, append(slices.Clone(mixed), seat(10, 7, 0))...)
}

// TestCancelAhead: a token is cancelled though nobody has sat down by it, and though all that did stood up (15.2).
func TestCancelAhead(t *testing.T) {
	s := leave.New()
	cancel(t, s, 3)
	same(t, s, tokens(3))
	noSit(t, s, api.ErrGone, seat(1, 7, 3))
	sit(t, s, seat(1, 7, 4), seat(2, 7, 5), seat(3, 8, 5))
	stand(t, s, seat(1, 7, 4))
	cancel(t, s, 4)
	noSit(t, s, api.ErrGone, seat(1, 7, 4))
	same(t, s, tokens(3, 4), seat(2, 7, 5), seat(3, 8, 5))
	end(t, s, 7, seat(2, 7, 5))
	cancel(t, s, 5, seat(3, 8, 5))
	same(t, s, tokens(3, 4, 5))
}

// TestCancelled: ahead of Cancel it is not, behind it it stays so, whatever becomes of the seats (15.2).
func TestCancelled(t *testing.T) {
	s := seats(t, mixed...)
	is := func(token int, want bool) {
		t.Helper()
		if got := s.Cancelled(token); got != want {
			t.Fatalf("Cancelled(%d): %t", token, got)
		}
	}
	for _, token := range append(slices.Clone(below), 0, 1, 3, 4, 5, math.MaxInt) {
		is(token, false)
	}
	cancel(t, s, 3, seat(6, 8, 3), seat(2, 7, 3), seat(1, 7, 3))
	cancel(t, s, math.MaxInt)
	end(t, s, 7, seat(9, 7, 0), seat(8, 7, 5))
	stand(t, s, seat(3, 9, 4))
	sit(t, s, seat(3, 9, 5))
	for _, token := range append(slices.Clone(below), 0, 1, 2, 4, 5, 7, 8, 9) {
		is(token, false)
	}
	is(3, true)
	is(math.MaxInt, true)
	same(t, s, tokens(3, math.MaxInt), seat(4, 8, 0), seat(3, 9, 5))
}

// TestEmpty: those of some runs that nobody has a seat of, in their order, each once (15.3).
func TestEmpty(t *testing.T) {
	s := leave.New()
	empty(t, s, nil)
	empty(t, s, []int{})
	empty(t, s, []int{7}, 7)
	empty(t, s, []int{7, 7}, 7)
	empty(t, s, []int{9, 7, 8, 9, 7, 1}, 9, 7, 8, 1)
	sit(t, s, seat(1, 7, 3), seat(2, 7, 0), seat(3, 8, 3), seat(10, 12, 11))
	empty(t, s, nil)
	empty(t, s, []int{7})
	empty(t, s, []int{7, 7})
	empty(t, s, []int{9}, 9)
	empty(t, s, []int{9, 9, 9}, 9)
	empty(t, s, []int{7, 8, 12})
	empty(t, s, []int{9, 7, 2, 8, 9, 1, 7, 2, 8, 3}, 9, 2, 1, 3)
	empty(t, s, []int{math.MaxInt, 7, 0, -1, 0, 10, 11, math.MinInt, -1}, math.MaxInt, 0, -1, 10, 11, math.MinInt)
	empty(t, s, below, below...)
	same(t, s, nil, seat(1, 7, 3), seat(2, 7, 0), seat(3, 8, 3), seat(10, 12, 11))
}

// TestEmptyBehind: a run is empty when the last one has gone from it, by Stand, by End or by Cancel, and not when one sits down again (15.3).
func TestEmptyBehind(t *testing.T) {
	s := seats(t, seat(1, 7, 3), seat(2, 7, 0), seat(3, 8, 3), seat(4, 9, 4))
	all := []int{9, 8, 7}
	stand(t, s, seat(1, 7, 3))
	empty(t, s, all)
	stand(t, s, seat(2, 7, 0))
	empty(t, s, all, 7)
	end(t, s, 9, seat(4, 9, 4))
	empty(t, s, all, 9, 7)
	cancel(t, s, 3, seat(3, 8, 3))
	empty(t, s, all, 9, 8, 7)
	sit(t, s, seat(1, 8, 4))
	empty(t, s, all, 9, 7)
	noSit(t, s, api.ErrGone, seat(2, 7, 3))
	noSit(t, s, api.ErrTaken, seat(1, 9, 4))
	empty(t, s, all, 9, 7)
}

// TestLenAndAll: ahead of and behind each call (15.3).
func TestLenAndAll(t *testing.T) {
	s := leave.New()
	is := func(want ...api.Seat) {
		t.Helper()
		if n, all := s.Len(), s.All(); n != len(want) || !slices.Equal(all, want) {
			t.Fatalf("Len: %d, All: %v, not %v", n, all, want)
		}
	}
	is()
	sit(t, s, seat(5, 7, 3))
	is(seat(5, 7, 3))
	sit(t, s, seat(2, 8, 0), seat(9, 7, 3), seat(1, 9, 4))
	is(seat(5, 7, 3), seat(2, 8, 0), seat(9, 7, 3), seat(1, 9, 4))
	noSit(t, s, api.ErrTaken, seat(2, 7, 3))
	noSit(t, s, api.ErrSeat, seat(0, 7, 3))
	noStand(t, s, 3)
	s.Where(5)
	s.Of(7)
	s.By(3)
	s.Empty(7, 10)
	s.Cancelled(3)
	s.End(10)
	s.Cancel(10)
	is(seat(5, 7, 3), seat(2, 8, 0), seat(9, 7, 3), seat(1, 9, 4))
	stand(t, s, seat(2, 8, 0))
	is(seat(5, 7, 3), seat(9, 7, 3), seat(1, 9, 4))
	sit(t, s, seat(2, 8, 4))
	is(seat(5, 7, 3), seat(9, 7, 3), seat(1, 9, 4), seat(2, 8, 4))
	end(t, s, 7, seat(5, 7, 3), seat(9, 7, 3))
	is(seat(1, 9, 4), seat(2, 8, 4))
	sit(t, s, seat(5, 7, 0))
	is(seat(1, 9, 4), seat(2, 8, 4), seat(5, 7, 0))
	cancel(t, s, 4, seat(1, 9, 4), seat(2, 8, 4))
	is(seat(5, 7, 0))
	stand(t, s, seat(5, 7, 0))
	is()
}
