package leave_test

import (
	"math/rand"
	"runtime"
	"slices"
	"testing"

	"convoy/api"
	"convoy/leave"
)

// TestExamples: the chapter's.
func TestExamples(t *testing.T) {
	s := leave.New()
	sit(t, s, seat(1, 7, 3), seat(2, 7, 0), seat(3, 8, 3))
	told(t, "Of(7)", s.Of(7), 1, 2)
	cancel(t, s, 3, seat(1, 7, 3), seat(3, 8, 3))
	empty(t, s, []int{7, 8}, 8)
	noSit(t, s, api.ErrGone, seat(4, 7, 3))
}

// plain is seats as the chapter tells them: a list that is searched.
type plain struct {
	seats     []api.Seat
	cancelled []int
}

func (p *plain) sit(x api.Seat) api.Errno {
	if x.Caller < 1 || x.Run < 1 || x.Token < 0 {
		return api.ErrSeat
	}
	if slices.Contains(p.cancelled, x.Token) {
		return api.ErrGone
	}
	if slices.ContainsFunc(p.seats, func(y api.Seat) bool { return y.Caller == x.Caller }) {
		return api.ErrTaken
	}
	p.seats = append(p.seats, x)
	return api.OK
}

// take takes away the seats of which a test holds.
func (p *plain) take(test func(x api.Seat) bool) []api.Seat {
	var gone []api.Seat
	gone, p.seats = sorts(p.seats, test)
	return gone
}

func (p *plain) cancel(token int) []api.Seat {
	if token < 1 {
		return nil
	}
	if !slices.Contains(p.cancelled, token) {
		p.cancelled = append(p.cancelled, token)
	}
	return p.take(func(x api.Seat) bool { return x.Token == token })
}

func (p *plain) clone() *plain {
	return &plain{slices.Clone(p.seats), slices.Clone(p.cancelled)}
}

// step plays one step by lot on seats and on plain ones.
func step(t *testing.T, lot *rand.Rand, s *leave.Seats, p *plain) {
	t.Helper()
	switch what := lot.Intn(100); {
	case what < 60:
		x := seat(lot.Intn(18)-1, lot.Intn(8)-1, lot.Intn(10)-1)
		if got, want := s.Sit(x), p.sit(x); got != want {
			t.Fatalf("Sit(%v): %d, not %d", x, got, want)
		}
	case what < 85:
		caller := lot.Intn(18) - 1
		if gone := p.take(func(x api.Seat) bool { return x.Caller == caller }); len(gone) > 0 {
			stand(t, s, gone...)
		} else {
			noStand(t, s, caller)
		}
	case what < 94:
		run := lot.Intn(8) - 1
		end(t, s, run, p.take(func(x api.Seat) bool { return x.Run == run })...)
	case what < 97:
		token := lot.Intn(10) - 1
		cancel(t, s, token, p.cancel(token)...)
	default:
		var runs, want []int
		for range lot.Intn(9) {
			runs = append(runs, lot.Intn(10)-2)
		}
		for i, run := range runs {
			if !slices.Contains(runs[:i], run) && !slices.ContainsFunc(p.seats, func(x api.Seat) bool { return x.Run == run }) {
				want = append(want, run)
			}
		}
		empty(t, s, runs, want...)
	}
}

// TestLikePlain plays steps by lot on seats, their clones and plain ones (15.1 to 15.3).
func TestLikePlain(t *testing.T) {
	lot := rand.New(rand.NewSource(15))
	for range 200 {
		all, plains := []*leave.Seats{leave.New()}, []*plain{{}}
		for range 200 {
			i := lot.Intn(len(all))
			step(t, lot, all[i], plains[i])
			same(t, all[i], plains[i].cancelled, plains[i].seats...)
			if len(all) < 4 && lot.Intn(40) == 0 {
				all, plains = append(all, all[i].Clone()), append(plains, plains[i].clone())
			}
		}
		for i, s := range all {
			same(t, s, plains[i].cancelled, plains[i].seats...)
		}
	}
}

// toldOnce looks that everybody who sits is told by Of and By once, and nobody else is (15.4).
func toldOnce(t *testing.T, s *leave.Seats, sits map[int]api.Seat) {
	t.Helper()
	var of, by []int
	for n := range 12 {
		of, by = append(of, s.Of(n)...), append(by, s.By(n)...)
	}
	if len(of) != len(sits) || len(by) != len(sits) || s.Len() != len(sits) {
		t.Fatalf("Of tells %v, By %v, of %v", of, by, sits)
	}
	for caller, x := range sits {
		if !slices.Contains(of, caller) || !slices.Contains(by, caller) {
			t.Fatalf("Of tells %v, By %v, of %v", of, by, sits)
		}
		if !slices.Contains(s.Of(x.Run), caller) || !slices.Contains(s.By(x.Token), caller) {
			t.Fatalf("%v is not told by its run, or by its token", x)
		}
	}
}

// TestFollows: who sits is told by Of and By once; what End and Cancel tell had seats, and has none any more (15.4).
func TestFollows(t *testing.T) {
	lot := rand.New(rand.NewSource(154))
	for range 200 {
		s, sits := leave.New(), map[int]api.Seat{}
		for range 150 {
			n := lot.Intn(12)
			var gone []api.Seat
			switch lot.Intn(12) {
			case 0:
				gone = s.End(n)
			case 1:
				if lot.Intn(5) == 0 {
					gone = s.Cancel(n)
				}
			case 2, 3:
				if x, sat := s.Stand(n); sat {
					gone = append(gone, x)
				}
			default:
				if x := seat(lot.Intn(20)+1, lot.Intn(11)+1, n); s.Sit(x) == api.OK {
					sits[x.Caller] = x
				}
			}
			for _, x := range gone {
				if sits[x.Caller] != x {
					t.Fatalf("%v is gone, and had %v", x, sits[x.Caller])
				}
				delete(sits, x.Caller)
				if y, still := s.Where(x.Caller); still {
					t.Fatalf("%v is gone, and has %v", x, y)
				}
			}
			toldOnce(t, s, sits)
		}
	}
}

// many is so many that a search for each one who goes would not end in time.
const many = 1 << 18

// TestMany: as many as there are stand up from ahead, from behind and between, and those who stay keep their order (15.1, 15.2).
func TestMany(t *testing.T) {
	s := leave.New()
	var all, left []api.Seat
	for caller := 1; caller <= many; caller++ {
		all = append(all, seat(caller, 7, 3))
	}
	sit(t, s, all...)
	for _, x := range all[:many/4] {
		stand(t, s, x)
	}
	for i := many - 1; i >= many/2; i-- {
		stand(t, s, all[i])
	}
	for _, x := range all[many/4 : many/2] {
		if x.Caller%5 == 0 {
			left = append(left, x)
		} else {
			stand(t, s, x)
		}
	}
	if got := s.All(); !slices.Equal(got, left) || len(s.Of(7)) != len(left) || len(s.By(3)) != len(left) {
		t.Fatalf("%d sit, not %d", len(got), len(left))
	}
	end(t, s, 7, left...)
	same(t, s, nil)
}

// TestManyRows: as many runs and tokens as there are seats, each of which ends or is cancelled by itself (15.2, 15.3).
func TestManyRows(t *testing.T) {
	s := leave.New()
	var runs, gone []int
	for n := 1; n <= many; n++ {
		sit(t, s, seat(n, n, n))
		runs = append(runs, n, n)
	}
	for n := 1; n <= many; n++ {
		switch n % 4 {
		case 0:
			end(t, s, n, seat(n, n, n))
			gone = append(gone, n)
		case 1:
			cancel(t, s, n, seat(n, n, n))
			gone = append(gone, n)
		}
	}
	empty(t, s, runs, gone...)
	if got := s.Len(); got != many-len(gone) {
		t.Fatalf("Len: %d", got)
	}
}

// weight is how many bytes are in use.
func weight() uint64 {
	var m runtime.MemStats
	runtime.GC()
	runtime.ReadMemStats(&m)
	return m.HeapAlloc
}

// TestManyComeAndGo: one who sits all the time stays the first, however many come and go behind it, and nothing is kept of those.
func TestManyComeAndGo(t *testing.T) {
	s := seats(t, seat(many, 7, 3))
	before := weight()
	for n := 1; n < many; n++ {
		x := seat(n, n+7, n+3)
		sit(t, s, x)
		if n%2 == 0 {
			stand(t, s, x)
		} else {
			end(t, s, x.Run, x)
		}
	}
	if after := weight(); after > before+many {
		t.Errorf("one sits, and %d bytes more are in use", after-before)
	}
	sit(t, s, seat(1, 7, 3))
	same(t, s, nil, seat(many, 7, 3), seat(1, 7, 3))
}
