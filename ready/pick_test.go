package ready_test

import (
	"math"
	"slices"
	"testing"

	"convoy/api"
	"convoy/ready"
)

// TestPolicies: whom each policy takes, of the same ones (22.2).
func TestPolicies(t *testing.T) {
	some := []int{5, -3, 9, 0, math.MaxInt, 7, math.MinInt, 6}
	for _, c := range []struct {
		policy     int
		want, told []int
	}{
		{0, some, []int{0, 0, 0, 0, 0, 0, 0, 0}},
		{1, []int{6, math.MinInt, 7, math.MaxInt, 0, 9, -3, 5}, []int{7, 6, 5, 4, 3, 2, 1, 0}},
		{3, []int{math.MinInt, -3, 0, 5, 6, 7, 9, math.MaxInt}, []int{6, 1, 2, 0, 3, 2, 0, 0}},
		{4, []int{math.MaxInt, 9, 7, 6, 5, 0, -3, math.MinInt}, []int{4, 2, 3, 4, 0, 1, 0, 0}},
	} {
		r := fresh(t, c.policy, 7)
		nobody(t, r)
		wake(t, r, some...)
		picked(t, r, c.want...)
		nobody(t, r)
		went(t, r, c.told...)
	}
}

// TestLot: whom PickLot takes of those from 0 to 9, by numbers that were worked out by another program (22.2).
func TestLot(t *testing.T) {
	for _, c := range []struct {
		seed       uint64
		want, told []int
	}{
		{0x0, []int{8, 5, 1, 0, 4, 7, 2, 6, 9, 3}, []int{8, 5, 1, 0, 2, 3, 0, 1, 1, 0}},
		{0x1, []int{5, 3, 7, 9, 1, 8, 0, 6, 2, 4}, []int{5, 3, 5, 6, 1, 4, 0, 2, 0, 0}},
		{0x7, []int{3, 7, 5, 1, 0, 9, 4, 8, 6, 2}, []int{3, 6, 4, 1, 0, 4, 1, 2, 1, 0}},
		{0xffffffffffffffff, []int{8, 3, 9, 0, 2, 7, 1, 4, 6, 5}, []int{8, 3, 7, 0, 1, 4, 0, 0, 1, 0}},
		{0x8000000000000000, []int{2, 5, 1, 4, 3, 0, 8, 7, 6, 9}, []int{2, 4, 1, 2, 1, 0, 2, 1, 0, 0}},
		{0x9e3779b97f4a7c15, []int{4, 2, 6, 8, 9, 5, 7, 3, 0, 1}, []int{4, 2, 4, 5, 5, 3, 3, 2, 0, 0}},
		{0x61c8864680b583eb, []int{0, 8, 6, 1, 2, 5, 9, 3, 4, 7}, []int{0, 7, 5, 0, 0, 2, 3, 0, 0, 0}},
	} {
		r := fresh(t, api.PickLot, c.seed)
		wake(t, r, 0, 1, 2, 3, 4, 5, 6, 7, 8, 9)
		picked(t, r, c.want...)
		nobody(t, r)
		went(t, r, c.told...)
	}
}

// TestLotDrawsForOne: also where there is one alone the state goes on, and only where there is nobody it does not (22.2).
func TestLotDrawsForOne(t *testing.T) {
	r, p := fresh(t, api.PickLot, 7), newPlain(2, 7, nil)
	for i := range 50 {
		for n := range []int{1, 5, 1, 0, 9}[i%5] {
			wake(t, r, n)
			p.wake(n)
		}
		for range len(p.ready) {
			n, _ := p.pick()
			picked(t, r, n)
		}
		nobody(t, r)
		went(t, r, p.told...)
	}
}

// TestOne: of one alone all take that, by whatever pick (22.2).
func TestOne(t *testing.T) {
	for _, policy := range policies {
		for _, n := range odd {
			r := fresh(t, policy, uint64(n), odd...)
			for range len(odd) + 5 {
				wake(t, r, n)
				are(t, r, n)
				picked(t, r, n)
				nobody(t, r)
			}
			went(t, r, make([]int, len(odd)+5)...)
		}
	}
}

// TestSchedulePlaces: the place of each pick, among so many (22.2).
func TestSchedulePlaces(t *testing.T) {
	for _, policy := range policies {
		for _, c := range []struct{ pick, of, want int }{
			{0, 1, 0}, {0, 3, 0}, {1, 3, 1}, {2, 3, 2}, {3, 3, 0}, {4, 3, 1}, {300, 3, 0}, {301, 3, 1},
			{-1, 3, 2}, {-2, 3, 1}, {-3, 3, 0}, {-4, 3, 2}, {-300, 3, 0}, {-301, 3, 2},
			{math.MaxInt, 2, 1}, {math.MaxInt, 3, 1}, {math.MaxInt, 10, 7}, {math.MaxInt, 1, 0}, {math.MaxInt - 7, 10, 0},
			{math.MinInt, 2, 0}, {math.MinInt, 3, 1}, {math.MinInt, 10, 2}, {math.MinInt, 1, 0}, {math.MinInt + 1, 10, 3},
			{1 << 32, 10, 6}, {-1 << 32, 10, 4}, {65535, 10, 5}, {65536, 10, 6},
		} {
			r := fresh(t, policy, 7, c.pick)
			for i := range c.of {
				wake(t, r, 100-i)
			}
			picked(t, r, 100-c.want)
			went(t, r, c.want)
		}
	}
}

// TestScheduleAtFull: picks among as many as may be (22.2).
func TestScheduleAtFull(t *testing.T) {
	picks := []int{65535, 65535, -1, 65533, 0, math.MinInt, 65530, math.MaxInt}
	r, p := full(t, api.PickLast, picks...), newPlain(1, 7, picks)
	for n := range 65536 {
		p.ready = append(p.ready, n)
	}
	// Of 65536 the last one, of 65535 the first one, of 65534 the last one, of 65533 the first one.
	picked(t, r, 65535, 0, 65534, 1)
	for range 4 {
		p.pick()
	}
	for range 6 {
		n, _ := p.pick()
		picked(t, r, n)
	}
	went(t, r, p.told...)
	if !slices.Equal(r.All(), p.ready) {
		t.Fatal("others are ready")
	}
}

// TestScheduleEnd: behind the schedule the policy says, each of them (22.2).
func TestScheduleEnd(t *testing.T) {
	for _, c := range []struct {
		policy     int
		want, told []int
	}{
		{0, []int{3, 1, 9, 4, 5, 2}, []int{1, 4, 0, 0, 0, 0}},
		{1, []int{3, 1, 2, 5, 4, 9}, []int{1, 4, 3, 2, 1, 0}},
		{3, []int{3, 1, 2, 4, 5, 9}, []int{1, 4, 3, 1, 1, 0}},
		{4, []int{3, 1, 9, 5, 4, 2}, []int{1, 4, 0, 1, 0, 0}},
	} {
		r := fresh(t, c.policy, 7, 1, -1)
		wake(t, r, 9, 3, 4, 5, 2, 1)
		picked(t, r, c.want...)
		nobody(t, r)
		went(t, r, c.told...)
	}
}

// TestLotStateBehindSchedule: picks of the schedule leave the state as it is: the first draw is the seed's own (22.2).
func TestLotStateBehindSchedule(t *testing.T) {
	for seed := range uint64(50) {
		for n := range 6 {
			plainly, behind := fresh(t, api.PickLot, seed), fresh(t, api.PickLot, seed, odd[:n]...)
			for range n {
				wake(t, behind, 1, 2)
				if _, ok := behind.Pick(); !ok {
					t.Fatal("nobody is picked")
				}
				behind.Rest(1)
				behind.Rest(2)
			}
			nobody(t, behind)
			for i := range 20 {
				wake(t, plainly, i)
				wake(t, behind, i)
			}
			for range 20 {
				want, _ := plainly.Pick()
				picked(t, behind, want)
			}
			if got := behind.Told()[n:]; !slices.Equal(got, plainly.Told()) {
				t.Fatalf("behind %d picks by the seed %d: %v, not %v", n, seed, got, plainly.Told())
			}
		}
	}
}

// TestPeeksChangeNothing: neither the state, nor the schedule, nor who is ready (22.2).
func TestPeeksChangeNothing(t *testing.T) {
	for _, policy := range policies {
		for _, picks := range [][]int{nil, {1}, {3, -1, 2}} {
			once, often := fresh(t, policy, 9, picks...), fresh(t, policy, 9, picks...)
			for i := range 12 {
				wake(t, once, i)
				wake(t, often, i)
			}
			for range 12 {
				was := see(often)
				for range 5 {
					often.Peek()
				}
				still(t, often, was)
				want, _ := once.Pick()
				if got, _ := often.Pick(); got != want {
					t.Fatalf("behind Peeks %d is picked, not %d", got, want)
				}
			}
			went(t, often, once.Told()...)
		}
	}
}

// TestPicksOfNobody: they are no turns: the schedule and the state stand where they stood (22.2).
func TestPicksOfNobody(t *testing.T) {
	for _, policy := range policies {
		for _, picks := range [][]int{nil, {1, 2}} {
			r, p := fresh(t, policy, 9, picks...), newPlain(policy, 9, picks)
			for i := range 6 {
				nobody(t, r)
				wake(t, r, i, i+1, i+2)
				for n := range 3 {
					p.wake(i + n)
				}
				for range 3 {
					n, _ := p.pick()
					picked(t, r, n)
				}
			}
			nobody(t, r)
			went(t, r, p.told...)
		}
	}
}

// TestMostPicks: the longest schedule, each of its picks, and the policy behind it (22.1, 22.2).
func TestMostPicks(t *testing.T) {
	picks := make([]int, 65536)
	for i := range picks {
		picks[i] = i*i - 7*i
	}
	for _, policy := range policies {
		r, p := fresh(t, policy, 3, picks...), newPlain(policy, 3, picks)
		for i := range 5 {
			wake(t, r, 4*i%5)
			p.wake(4 * i % 5)
		}
		for range len(picks) + 20 {
			want, _ := p.pick()
			if got, ok := r.Pick(); got != want || !ok {
				t.Fatalf("turn %d by the policy %d: %d, %t, not %d", r.Turns(), policy, got, ok, want)
			}
			wake(t, r, want)
			p.wake(want)
		}
		went(t, r, p.told...)
		// As many places as that are a schedule no more.
		if again, err := ready.New(policy, 3, r.Told()); again != nil || err != api.ErrMany {
			t.Fatalf("New of %d picks: %v, %d", r.Turns(), again, err)
		}
		fresh(t, policy, 3, r.Told()[:65536]...)
	}
}

// TestFullByEach: as many as may be are picked, each once, by each policy (22.2).
func TestFullByEach(t *testing.T) {
	for _, policy := range policies {
		r := full(t, policy)
		var got []int
		for n, ok := r.Pick(); ok; n, ok = r.Pick() {
			got = append(got, n)
		}
		nobody(t, r)
		if r.Turns() != 65536 {
			t.Fatalf("%d turns", r.Turns())
		}
		switch policy {
		case api.PickLast, api.PickMost:
			slices.Reverse(got)
		case api.PickLot:
			slices.Sort(got)
		}
		for i, n := range got {
			if n != i {
				t.Fatalf("by the policy %d %d is at %d", policy, n, i)
			}
		}
		// There is room for all of them once more.
		for n := range 65536 {
			wake(t, r, n)
		}
	}
}

// TestNil: 22.3.
func TestNil(t *testing.T) {
	var r *ready.Ready
	for range 2 {
		for _, n := range odd {
			if err := r.Wake(n); err != api.ErrMany {
				t.Errorf("Wake(%d): %d", n, err)
			}
			if r.Rest(n) || r.Has(n) {
				t.Errorf("Rest or Has of %d: true", n)
			}
		}
		nobody(t, r)
		went(t, r)
		if twin := r.Clone(); twin != nil {
			t.Errorf("Clone: %v", twin)
		}
	}
}
