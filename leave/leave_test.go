package leave_test

import (
	"math"
	"slices"
	"testing"

	"convoy/api"
	"convoy/leave"
)

// The calls are those that the chapter lists: a change of one does not compile.
var (
	_ func() *leave.Seats                      = leave.New
	_ func(*leave.Seats, api.Seat) api.Errno   = (*leave.Seats).Sit
	_ func(*leave.Seats, int) (api.Seat, bool) = (*leave.Seats).Stand
	_ func(*leave.Seats, int) []int            = (*leave.Seats).Of
	_ func(*leave.Seats, int) []int            = (*leave.Seats).By
	_ func(*leave.Seats, int) (api.Seat, bool) = (*leave.Seats).Where
	_ func(*leave.Seats, int) []api.Seat       = (*leave.Seats).End
	_ func(*leave.Seats, int) []api.Seat       = (*leave.Seats).Cancel
	_ func(*leave.Seats, int) bool             = (*leave.Seats).Cancelled
	_ func(*leave.Seats, ...int) []int         = (*leave.Seats).Empty
	_ func(*leave.Seats) int                   = (*leave.Seats).Len
	_ func(*leave.Seats) []api.Seat            = (*leave.Seats).All
	_ func(*leave.Seats) *leave.Seats          = (*leave.Seats).Clone
)

// below is numbers that no caller, no run and no token has.
var below = []int{-1, -2, -7, math.MinInt, math.MinInt + 1}

// odd is numbers that few tests give a caller, a run or a token, and some that none of them can have.
var odd = slices.Concat(below, []int{0, 1, 2, 3, 4, 9, 150, math.MaxInt - 1, math.MaxInt})

// seat is a seat.
func seat(caller, run, token int) api.Seat {
	return api.Seat{Caller: caller, Run: run, Token: token}
}

// seats makes seats that are sat down on in turn.
func seats(t *testing.T, all ...api.Seat) *leave.Seats {
	t.Helper()
	s := leave.New()
	if s == nil {
		t.Fatal("New: nil")
	}
	sit(t, s, all...)
	return s
}

// sit gives callers seats.
func sit(t *testing.T, s *leave.Seats, all ...api.Seat) {
	t.Helper()
	for _, x := range all {
		if err := s.Sit(x); err != api.OK {
			t.Fatalf("Sit(%v): %d", x, err)
		}
	}
}

// noSit looks that seats are refused with an error.
func noSit(t *testing.T, s *leave.Seats, want api.Errno, all ...api.Seat) {
	t.Helper()
	for _, x := range all {
		if err := s.Sit(x); err != want {
			t.Fatalf("Sit(%v): %d, not %d", x, err, want)
		}
	}
}

// stand takes away the seats of callers, and holds them against those that they should have had.
func stand(t *testing.T, s *leave.Seats, all ...api.Seat) {
	t.Helper()
	for _, x := range all {
		if got, sat := s.Stand(x.Caller); got != x || !sat {
			t.Fatalf("Stand(%d): %v, %t, not %v", x.Caller, got, sat, x)
		}
	}
}

// noStand looks that callers have no seat to stand up from.
func noStand(t *testing.T, s *leave.Seats, callers ...int) {
	t.Helper()
	for _, caller := range callers {
		if got, sat := s.Stand(caller); got != (api.Seat{}) || sat {
			t.Fatalf("Stand(%d): %v, %t", caller, got, sat)
		}
	}
}

// end ends a run, and holds the seats that are gone by that against a list.
func end(t *testing.T, s *leave.Seats, run int, want ...api.Seat) {
	t.Helper()
	if got := s.End(run); !slices.Equal(got, want) {
		t.Fatalf("End(%d): %v, not %v", run, got, want)
	}
}

// cancel cancels a token, and holds the seats that are gone by that against a list.
func cancel(t *testing.T, s *leave.Seats, token int, want ...api.Seat) {
	t.Helper()
	if got := s.Cancel(token); !slices.Equal(got, want) {
		t.Fatalf("Cancel(%d): %v, not %v", token, got, want)
	}
}

// empty holds those of some runs that nobody has a seat of against a list.
func empty(t *testing.T, s *leave.Seats, runs []int, want ...int) {
	t.Helper()
	if got := s.Empty(runs...); !slices.Equal(got, want) {
		t.Fatalf("Empty(%v): %v, not %v", runs, got, want)
	}
}

// tokens is a list of tokens.
func tokens(all ...int) []int { return all }

// same holds all that can be asked of seats against the tokens that are cancelled, and the seats that there are, in their order.
func same(t *testing.T, s *leave.Seats, cancelled []int, want ...api.Seat) {
	t.Helper()
	if got := s.All(); !slices.Equal(got, want) {
		t.Fatalf("All: %v, not %v", got, want)
	}
	if got := s.Len(); got != len(want) {
		t.Fatalf("Len: %d, of %v", got, want)
	}
	asked := slices.Concat(odd, cancelled)
	for _, x := range want {
		asked = append(asked, x.Caller, x.Caller+1, x.Run, x.Run+1, x.Token, x.Token+1)
	}
	slices.Sort(asked)
	for _, n := range slices.Compact(asked) {
		sameOf(t, s, n, want)
		if got := s.Cancelled(n); got != slices.Contains(cancelled, n) {
			t.Fatalf("Cancelled(%d): %t, of %v", n, got, cancelled)
		}
	}
}

// sameOf holds what can be asked of a number, be it a caller's, a run's or a token's, against all seats.
func sameOf(t *testing.T, s *leave.Seats, n int, all []api.Seat) {
	t.Helper()
	var its api.Seat
	var of, by []int
	for _, x := range all {
		if x.Caller == n {
			its = x
		}
		if x.Run == n {
			of = append(of, x.Caller)
		}
		if x.Token == n {
			by = append(by, x.Caller)
		}
	}
	if got, sits := s.Where(n); got != its || sits != (its != api.Seat{}) {
		t.Fatalf("Where(%d): %v, %t, of %v", n, got, sits, all)
	}
	if got := s.Of(n); !slices.Equal(got, of) {
		t.Fatalf("Of(%d): %v, of %v", n, got, all)
	}
	if got := s.By(n); !slices.Equal(got, by) {
		t.Fatalf("By(%d): %v, of %v", n, got, all)
	}
	if got := s.Empty(n); (len(of) > 0) != (len(got) == 0) || len(got) > 0 && !slices.Equal(got, []int{n}) {
		t.Fatalf("Empty(%d): %v, of %v", n, got, all)
	}
}

// TestNew: there are no seats, and no token is cancelled (15.1).
func TestNew(t *testing.T) {
	same(t, seats(t), nil)
	if leave.New() == leave.New() {
		t.Error("New: the same twice")
	}
}

// TestSit: a caller has the seat that it was given, at the least and at the greatest numbers (15.1).
func TestSit(t *testing.T) {
	least, most := seat(1, 1, 1), seat(math.MaxInt, math.MaxInt, math.MaxInt)
	for _, x := range []api.Seat{seat(1, 1, 0), least, seat(1, 7, 3), seat(7, 1, 3), seat(7, 3, 1), most, seat(1, math.MaxInt, 0)} {
		same(t, seats(t, x), nil, x)
	}
	all := []api.Seat{least, seat(2, 1, 1), seat(3, 1, 0), seat(4, 2, 1), seat(150, 150, 150), most}
	s := leave.New()
	for i, x := range all {
		sit(t, s, x)
		same(t, s, nil, all[:i+1]...)
	}
}

// wrong is seats that may not be, made of one that may be.
func wrong(x api.Seat) []api.Seat {
	all := []api.Seat{{}, {Token: x.Token}, {Caller: x.Caller, Token: x.Token}, {Run: x.Run, Token: x.Token}}
	for _, n := range below {
		all = append(all, seat(n, x.Run, x.Token), seat(x.Caller, n, x.Token), seat(x.Caller, x.Run, n),
			seat(n, n, x.Token), seat(n, 0, n), seat(n, x.Run, 0), seat(x.Caller, n, 0), seat(0, n, n), seat(0, 0, n), seat(n, n, n))
	}
	return all
}

// TestSitWrong: a seat that may not be is refused, and all is as it was (15.1).
func TestSitWrong(t *testing.T) {
	s := leave.New()
	for _, x := range []api.Seat{seat(1, 1, 1), seat(5, 7, 3), seat(math.MaxInt, math.MaxInt, math.MaxInt)} {
		noSit(t, s, api.ErrSeat, wrong(x)...)
		same(t, s, nil)
	}
	sit(t, s, seat(1, 1, 0), seat(2, 1, 1))
	noSit(t, s, api.ErrSeat, wrong(seat(3, 1, 1))...)
	same(t, s, nil, seat(1, 1, 0), seat(2, 1, 1))
}

// TestSitWrongIsFirst: a seat that may not be is ErrSeat, though its token is cancelled, its caller has a seat, or both (15.1).
func TestSitWrongIsFirst(t *testing.T) {
	s := seats(t, seat(1, 7, 3))
	cancel(t, s, 9)
	noSit(t, s, api.ErrSeat, wrong(seat(1, 7, 3))...)
	noSit(t, s, api.ErrSeat, wrong(seat(2, 7, 9))...)
	noSit(t, s, api.ErrSeat, wrong(seat(1, 7, 9))...)
	noSit(t, s, api.ErrSeat, seat(1, 0, 3), seat(1, -1, 3), seat(1, 7, -1), seat(2, 0, 9), seat(2, -1, 9), seat(0, 7, 9), seat(-1, 7, 9), seat(1, 0, 9), seat(1, -1, 9))
	same(t, s, tokens(9), seat(1, 7, 3))
}

// TestSitGone: a cancelled token is ErrGone, ahead of a caller that has a seat, whatever its seat (15.1).
func TestSitGone(t *testing.T) {
	for _, token := range []int{1, 9, math.MaxInt} {
		s := seats(t, seat(1, 7, 3), seat(2, 8, 0))
		cancel(t, s, token)
		noSit(t, s, api.ErrGone, seat(4, 7, token), seat(4, 1, token), seat(math.MaxInt, math.MaxInt, token))
		noSit(t, s, api.ErrGone, seat(1, 7, token), seat(1, 8, token), seat(2, 8, token), seat(2, 1, token))
		same(t, s, tokens(token), seat(1, 7, 3), seat(2, 8, 0))
		sit(t, s, seat(4, 7, 0), seat(5, 7, 3), seat(6, 7, token-1))
		same(t, s, tokens(token), seat(1, 7, 3), seat(2, 8, 0), seat(4, 7, 0), seat(5, 7, 3), seat(6, 7, token-1))
	}
}

// TestSitTaken: a caller that has a seat has no second one, whatever that would be, and keeps the first and its place (15.1).
func TestSitTaken(t *testing.T) {
	all := []api.Seat{seat(1, 7, 3), seat(2, 7, 0), seat(math.MaxInt, 8, 3)}
	s := seats(t, all...)
	for _, x := range all {
		noSit(t, s, api.ErrTaken, x, seat(x.Caller, x.Run, 0), seat(x.Caller, x.Run, 3), seat(x.Caller, x.Run, 4),
			seat(x.Caller, 7, x.Token), seat(x.Caller, 8, x.Token), seat(x.Caller, 9, x.Token), seat(x.Caller, 9, 9))
		same(t, s, nil, all...)
	}
}

// TestStand: a caller that stands up has no seat any more, the others keep theirs, be it the first, the last or one between (15.1).
func TestStand(t *testing.T) {
	all := []api.Seat{seat(5, 7, 3), seat(6, 7, 3), seat(1, 8, 3), seat(9, 7, 0), seat(3, 8, 0)}
	for i, x := range all {
		s := seats(t, all...)
		stand(t, s, x)
		left := slices.Delete(slices.Clone(all), i, i+1)
		same(t, s, nil, left...)
		noStand(t, s, x.Caller, x.Caller)
		same(t, s, nil, left...)
		for j, y := range left {
			stand(t, s, y)
			same(t, s, nil, left[j+1:]...)
		}
		noStand(t, s, 5, 6, 1, 9, 3)
		same(t, s, nil)
	}
}

// TestStandOfNone: who has no seat has the zero one and false, and all is as it was (15.1).
func TestStandOfNone(t *testing.T) {
	s := seats(t)
	noStand(t, s, odd...)
	sit(t, s, seat(5, 7, 3), seat(8, 1, 0))
	noStand(t, s, odd...)
	noStand(t, s, 7, 6)
	same(t, s, nil, seat(5, 7, 3), seat(8, 1, 0))
	end(t, s, 7, seat(5, 7, 3))
	noStand(t, s, 5)
	cancel(t, s, 2)
	sit(t, s, seat(5, 7, 4))
	cancel(t, s, 4, seat(5, 7, 4))
	noStand(t, s, 5)
	same(t, s, tokens(2, 4), seat(8, 1, 0))
}

// TestWhere: a caller's seat, as often as it is asked for, and nothing is changed (15.1).
func TestWhere(t *testing.T) {
	all := []api.Seat{seat(5, 7, 3), seat(2, 7, 0), seat(math.MaxInt, 8, 3)}
	s := seats(t, all...)
	for range 3 {
		for _, x := range all {
			if got, sits := s.Where(x.Caller); got != x || !sits {
				t.Fatalf("Where(%d): %v, %t", x.Caller, got, sits)
			}
		}
		for _, caller := range append(slices.Clone(below), 0, 1, 3, 7, 8) {
			if got, sits := s.Where(caller); got != (api.Seat{}) || sits {
				t.Fatalf("Where(%d): %v, %t", caller, got, sits)
			}
		}
		same(t, s, nil, all...)
	}
	stand(t, s, all[1])
	if got, sits := s.Where(2); got != (api.Seat{}) || sits {
		t.Fatalf("Where of one that stood up: %v, %t", got, sits)
	}
	same(t, s, nil, all[0], all[2])
}

// TestSitAgain: behind Stand, End and Cancel a caller may sit down again, behind all others, by each token that is live (15.1).
func TestSitAgain(t *testing.T) {
	first, other := seat(1, 7, 3), seat(2, 8, 4)
	for _, again := range []api.Seat{first, seat(1, 7, 0), seat(1, 8, 3), seat(1, 8, 4), seat(1, 9, 9)} {
		s := seats(t, first, other)
		stand(t, s, first)
		sit(t, s, again)
		same(t, s, nil, other, again)
		noSit(t, s, api.ErrTaken, again, first)

		s = seats(t, first, other)
		end(t, s, 7, first)
		sit(t, s, again)
		same(t, s, nil, other, again)
		noSit(t, s, api.ErrTaken, again, first)

		s = seats(t, first, other)
		cancel(t, s, 3, first)
		if again.Token == 3 {
			noSit(t, s, api.ErrGone, again)
			same(t, s, tokens(3), other)
			continue
		}
		sit(t, s, again)
		same(t, s, tokens(3), other, again)
		noSit(t, s, api.ErrTaken, again)
		noSit(t, s, api.ErrGone, first)
	}
}
