package leave_test

import (
	"math"
	"slices"
	"testing"

	"convoy/api"
	"convoy/leave"
)

// spoil overwrites a list of numbers, and what lies in the room behind its end.
func spoil(l []int) {
	l = l[:cap(l)]
	for i := range l {
		l[i] = 99
	}
}

// spoilSeats overwrites a list of seats, and what lies in the room behind its end.
func spoilSeats(l []api.Seat) {
	l = l[:cap(l)]
	for i := range l {
		l[i] = seat(99, 99, 99)
	}
}

// some is so many seats, of two runs and by two tokens.
func some(n int) []api.Seat {
	var all []api.Seat
	for i := range n {
		all = append(all, seat(100-i, 7+i%2, 3+i%3/2))
	}
	return all
}

// TestListsAreNewMemory: what Of, By, All and Empty tell shares nothing with what is kept, nor with another answer, and stays as it is (R4).
func TestListsAreNewMemory(t *testing.T) {
	for n := 2; n < 20; n++ {
		want := some(n)
		s := seats(t, want...)
		lists := func() [][]int { return [][]int{s.Of(7), s.Of(8), s.By(3), s.By(4), s.Empty(9, 10, 11)} }
		first, all, kept := lists(), s.All(), lists()
		for i, l := range lists() {
			spoil(l)
			for j := range first {
				if !slices.Equal(first[j], kept[j]) {
					t.Fatalf("the list %d is spoilt with the list %d", j, i)
				}
			}
		}
		spoilSeats(s.All())
		if !slices.Equal(all, want) {
			t.Fatalf("All is spoilt with another answer: %v", all)
		}
		same(t, s, nil, want...)
		sit(t, s, seat(1, 7, 3), seat(2, 8, 4))
		stand(t, s, want[0], want[n-1])
		sit(t, s, want[0])
		cancel(t, s, 50)
		s.Cancel(4)
		s.End(7)
		if !slices.Equal(all, want) || !slices.EqualFunc(first, kept, slices.Equal) {
			t.Fatalf("an answer changed later: %v, %v", all, first)
		}
	}
}

// TestGoneIsNewMemory: what End and Cancel tell shares nothing with what is kept, nor with another answer (R4).
func TestGoneIsNewMemory(t *testing.T) {
	for n := 2; n < 20; n++ {
		of, left := sorts(some(n), func(x api.Seat) bool { return x.Run == 7 })
		by, others := sorts(left, func(x api.Seat) bool { return x.Token == 3 })
		s := seats(t, some(n)...)
		twin, all := s.Clone(), s.All()
		ended := s.End(7)
		gone := s.Cancel(3)
		spoilSeats(ended)
		if !slices.Equal(gone, by) {
			t.Fatalf("Cancel is spoilt with End: %v, not %v", gone, by)
		}
		same(t, s, tokens(3), others...)
		sit(t, s, seat(1, 7, 4))
		spoilSeats(gone)
		same(t, s, tokens(3), append(others, seat(1, 7, 4))...)
		same(t, twin, nil, all...)
		end(t, twin, 7, of...)
	}
}

// TestRunsStay: the list that is handed to Empty is not changed, nor what lies behind its end, nor is it handed out (R4).
func TestRunsStay(t *testing.T) {
	whole := []int{9, 7, 9, 10, 8, 10, 77, 78, 79}
	for _, s := range []*leave.Seats{nil, leave.New(), seats(t, seat(1, 7, 3), seat(2, 8, 0))} {
		for n := range 7 {
			runs := slices.Clone(whole)
			got := s.Empty(runs[:n]...)
			want := slices.Clone(got)
			spoil(got)
			if !slices.Equal(runs, whole) {
				t.Fatalf("Empty(%v): what was handed in is %v", whole[:n], runs)
			}
			got = s.Empty(runs[:n]...)
			spoil(runs)
			if !slices.Equal(got, want) {
				t.Fatalf("Empty(%v): %v behind a change of the list, not %v", whole[:n], got, want)
			}
		}
		empty(t, s, []int{99}, 99)
	}
}

// TestApart: two Seats know nothing of one another (R5).
func TestApart(t *testing.T) {
	a, b := seats(t, seat(1, 7, 3)), seats(t, seat(1, 7, 4))
	cancel(t, a, 4)
	cancel(t, b, 3)
	same(t, a, tokens(4), seat(1, 7, 3))
	same(t, b, tokens(3), seat(1, 7, 4))
	end(t, a, 7, seat(1, 7, 3))
	sit(t, b, seat(2, 7, 0))
	same(t, a, tokens(4))
	same(t, b, tokens(3), seat(1, 7, 4), seat(2, 7, 0))
	same(t, leave.New(), nil)
}

// change is what can be done to seats, and what they are then.
type change struct {
	name      string
	do        func(s *leave.Seats)
	cancelled []int
	then      []api.Seat
}

// begun is seats by which 9 is cancelled, and from which one in the midst stood up.
func begun(t *testing.T) *leave.Seats {
	t.Helper()
	s := seats(t, seat(1, 7, 3), seat(5, 7, 3), seat(2, 7, 0), seat(3, 8, 3))
	cancel(t, s, 9)
	stand(t, s, seat(5, 7, 3))
	return s
}

// changes is what can be done to such seats.
func changes(t *testing.T) []change {
	one, two, three := seat(1, 7, 3), seat(2, 7, 0), seat(3, 8, 3)
	return []change{
		{"nothing", func(s *leave.Seats) {}, tokens(9), []api.Seat{one, two, three}},
		{"Sit", func(s *leave.Seats) { sit(t, s, seat(4, 7, 3)) }, tokens(9), []api.Seat{one, two, three, seat(4, 7, 3)}},
		{"Sit of another", func(s *leave.Seats) { sit(t, s, seat(6, 10, 10)) }, tokens(9), []api.Seat{one, two, three, seat(6, 10, 10)}},
		{"Stand of the first", func(s *leave.Seats) { stand(t, s, one) }, tokens(9), []api.Seat{two, three}},
		{"Stand of the last", func(s *leave.Seats) { stand(t, s, three) }, tokens(9), []api.Seat{one, two}},
		{"Stand and Sit", func(s *leave.Seats) { stand(t, s, two); sit(t, s, two) }, tokens(9), []api.Seat{one, three, two}},
		{"Stand of all", func(s *leave.Seats) { stand(t, s, two, one, three) }, tokens(9), nil},
		{"End", func(s *leave.Seats) { end(t, s, 7, one, two) }, tokens(9), []api.Seat{three}},
		{"End of the other", func(s *leave.Seats) { end(t, s, 8, three) }, tokens(9), []api.Seat{one, two}},
		{"Cancel", func(s *leave.Seats) { cancel(t, s, 3, one, three) }, tokens(3, 9), []api.Seat{two}},
		{"Cancel of another", func(s *leave.Seats) { cancel(t, s, 10) }, tokens(9, 10), []api.Seat{one, two, three}},
		{"what is refused", func(s *leave.Seats) { noSit(t, s, api.ErrGone, seat(4, 7, 9)); noSit(t, s, api.ErrTaken, one) }, tokens(9), []api.Seat{one, two, three}},
	}
}

// is holds seats against what they should be behind a change.
func (c change) is(t *testing.T, s *leave.Seats) {
	t.Helper()
	same(t, s, c.cancelled, c.then...)
}

// TestClone: the clone is the same, cancelled tokens with it, and neither of the two sees what is done with the other, however far each has gone (15.3).
func TestClone(t *testing.T) {
	for _, first := range changes(t) {
		for _, second := range changes(t) {
			s := begun(t)
			twin := s.Clone()
			if twin == nil || twin == s {
				t.Fatal("Clone: nil, or the seats themselves")
			}
			changes(t)[0].is(t, twin)
			first.do(s)
			changes(t)[0].is(t, twin)
			second.do(twin)
			first.is(t, s)
			second.is(t, twin)
			third := s.Clone()
			first.is(t, third)
			third.Cancel(3)
			third.Cancel(11)
			third.End(7)
			third.Sit(seat(50, 7, 0))
			first.is(t, s)
		}
	}
}

// TestCloneOfNone: seats without any have a clone of their own, too, with tokens that are cancelled and without (15.3).
func TestCloneOfNone(t *testing.T) {
	s := leave.New()
	twin := s.Clone()
	same(t, twin, nil)
	cancel(t, twin, 3)
	sit(t, s, seat(1, 7, 3))
	same(t, s, nil, seat(1, 7, 3))
	same(t, twin, tokens(3))
	third := twin.Clone()
	cancel(t, third, 4)
	sit(t, twin, seat(1, 7, 4))
	noSit(t, third, api.ErrGone, seat(1, 7, 4), seat(1, 7, 3))
	same(t, twin, tokens(3), seat(1, 7, 4))
	same(t, third, tokens(3, 4))
}

// TestNil: every call on nil Seats, ahead of all else (15.3).
func TestNil(t *testing.T) {
	var s *leave.Seats
	for range 2 {
		same(t, s, nil)
		noSit(t, s, api.ErrSeat, mixed...)
		noSit(t, s, api.ErrSeat, wrong(seat(1, 1, 1))...)
		noSit(t, s, api.ErrSeat, seat(1, 1, 0), seat(math.MaxInt, math.MaxInt, math.MaxInt))
		noStand(t, s, odd...)
		for _, n := range odd {
			end(t, s, n)
			cancel(t, s, n)
		}
		empty(t, s, nil)
		empty(t, s, []int{7}, 7)
		empty(t, s, []int{9, 7, 9, 0, -1, 7, 0, math.MinInt}, 9, 7, 0, -1, math.MinInt)
		if twin := s.Clone(); twin != nil {
			t.Fatalf("Clone: %v", twin)
		}
	}
}

// TestZero: seats that no call gave do no harm (R1).
func TestZero(t *testing.T) {
	for _, s := range []*leave.Seats{new(leave.Seats), new(leave.Seats).Clone()} {
		same(t, s, nil)
		end(t, s, 7)
		noStand(t, s, 1)
		cancel(t, s, 9)
		sit(t, s, seat(1, 7, 3))
		same(t, s, tokens(9), seat(1, 7, 3))
	}
}
