package ready_test

import (
	"math"
	"slices"
	"testing"

	"convoy/api"
	"convoy/ready"
)

// policies is all that there are.
var policies = []int{0, 1, 2, 3, 4}

// odd is numbers of all kinds.
var odd = []int{0, 1, -1, 2, -2, 7, 255, 256, 1023, 1024, 65535, 65536, -65536, 1 << 32, -1 << 32, math.MaxInt - 1, math.MaxInt, math.MinInt + 1, math.MinInt}

// fresh makes ready ones of whom there is nobody.
func fresh(t *testing.T, policy int, seed uint64, picks ...int) *ready.Ready {
	t.Helper()
	r, err := ready.New(policy, seed, picks)
	if r == nil || err != api.OK {
		t.Fatalf("New(%d, %d, %d picks): %v, %d", policy, seed, len(picks), r, err)
	}
	return r
}

// wake makes some ready, none of whom is.
func wake(t *testing.T, r *ready.Ready, all ...int) {
	t.Helper()
	for _, n := range all {
		if err := r.Wake(n); err != api.OK {
			t.Fatalf("Wake(%d): %d", n, err)
		}
	}
}

// state is all that can be seen of ready ones.
type state struct {
	all, told, future []int
	len, turns        int
}

// see tells all that can be seen of ready ones, which stay as they are: their schedule, policy and state are seen by what a clone picks.
func see(r *ready.Ready) state {
	s := state{all: r.All(), told: r.Told(), len: r.Len(), turns: r.Turns()}
	twin := r.Clone()
	for round := range 4 {
		for {
			peek, would := twin.Peek()
			n, ok := twin.Pick()
			if peek != n || would != ok {
				panic("Peek is not Pick")
			}
			if !ok {
				break
			}
			s.future = append(s.future, n)
		}
		for i := range 7 {
			twin.Wake(i*5%7 + round)
		}
	}
	return s
}

func (s state) same(o state) bool {
	return slices.Equal(s.all, o.all) && slices.Equal(s.told, o.told) && slices.Equal(s.future, o.future) && s.len == o.len && s.turns == o.turns
}

// still looks that ready ones are as they were.
func still(t *testing.T, r *ready.Ready, was state) {
	t.Helper()
	if is := see(r); !is.same(was) {
		t.Fatalf("changed: %v, not %v", is, was)
	}
}

// are looks that just those are ready, in that order, and nobody else of some.
func are(t *testing.T, r *ready.Ready, want ...int) {
	t.Helper()
	if got := r.All(); !slices.Equal(got, want) || r.Len() != len(want) {
		t.Fatalf("ready are %v, %d of them, not %v", got, r.Len(), want)
	}
	for _, n := range slices.Concat(odd, want) {
		if got := r.Has(n); got != slices.Contains(want, n) {
			t.Fatalf("Has(%d) of %v: %t", n, want, got)
		}
	}
}

// picked looks that those are picked one behind the other, each as Peek tells it ahead, as often as it is asked.
func picked(t *testing.T, r *ready.Ready, want ...int) {
	t.Helper()
	for i, n := range want {
		turns := r.Turns()
		for range 2 {
			if got, ok := r.Peek(); got != n || !ok {
				t.Fatalf("Peek number %d: %d, %t, not %d", i, got, ok, n)
			}
		}
		if !r.Has(n) || r.Turns() != turns {
			t.Fatalf("a Peek of %d changed something", n)
		}
		if got, ok := r.Pick(); got != n || !ok {
			t.Fatalf("Pick number %d: %d, %t, not %d", i, got, ok, n)
		}
		if r.Has(n) || r.Turns() != turns+1 {
			t.Fatalf("behind Pick of %d: ready still, or %d turns", n, r.Turns())
		}
	}
}

// nobody looks that nobody is ready, and that nobody is picked, which is no turn.
func nobody(t *testing.T, r *ready.Ready) {
	t.Helper()
	are(t, r)
	turns, told := r.Turns(), r.Told()
	for range 3 {
		if n, ok := r.Peek(); n != 0 || ok {
			t.Fatalf("Peek of nobody: %d, %t", n, ok)
		}
		if n, ok := r.Pick(); n != 0 || ok {
			t.Fatalf("Pick of nobody: %d, %t", n, ok)
		}
	}
	if r.Turns() != turns || !slices.Equal(r.Told(), told) {
		t.Fatalf("Picks of nobody were turns: %d, %v", r.Turns(), r.Told())
	}
}

// went looks that those places were picked, in as many turns.
func went(t *testing.T, r *ready.Ready, want ...int) {
	t.Helper()
	if got := r.Told(); !slices.Equal(got, want) || r.Turns() != len(want) {
		t.Fatalf("Told: %v, in %d turns, not %v", got, r.Turns(), want)
	}
}

// TestNew: a policy and picks that may be (22.1).
func TestNew(t *testing.T) {
	for _, policy := range policies {
		for _, picks := range [][]int{nil, {}, {0}, odd, make([]int, 65535), make([]int, 65536)} {
			for _, seed := range []uint64{0, 1, math.MaxUint64} {
				r := fresh(t, policy, seed, picks...)
				nobody(t, r)
				went(t, r)
			}
		}
	}
}

// TestNewOf: each constant of a policy is the number that the chapter tells.
func TestNewOf(t *testing.T) {
	for want, policy := range []int{api.PickTurn, api.PickLast, api.PickLot, api.PickLeast, api.PickMost} {
		if policy != want {
			t.Errorf("the policy %d is %d", want, policy)
		}
	}
	if api.ErrPolicy != 220 || api.ErrThere != 40 || api.ErrMany != 3 {
		t.Error("an error of another number")
	}
}

// refused looks that no ready ones are made.
func refused(t *testing.T, policy int, picks []int, want api.Errno) {
	t.Helper()
	if r, err := ready.New(policy, 7, picks); r != nil || err != want {
		t.Fatalf("New(%d, 7, %d picks): %v, %d, not %d", policy, len(picks), r, err, want)
	}
}

// TestNewRefused: what may not be; both wrong at once is the policy's fault (22.1).
func TestNewRefused(t *testing.T) {
	many := make([]int, 65537)
	for _, policy := range []int{math.MinInt, -1 << 32, -5, -2, -1, 5, 6, 255, 256, 257, 1 << 32, 1<<32 + 1, math.MaxInt} {
		refused(t, policy, nil, api.ErrPolicy)
		refused(t, policy, []int{1}, api.ErrPolicy)
		refused(t, policy, many[:65536], api.ErrPolicy)
		refused(t, policy, many, api.ErrPolicy)
	}
	for _, policy := range policies {
		refused(t, policy, many, api.ErrMany)
		refused(t, policy, make([]int, 200000), api.ErrMany)
	}
}

// TestWake: who is made ready is the last one, whatever the number (22.1).
func TestWake(t *testing.T) {
	for _, policy := range policies {
		r := fresh(t, policy, 7)
		for i, n := range odd {
			wake(t, r, n)
			are(t, r, odd[:i+1]...)
		}
		went(t, r)
	}
}

// TestWakeTwice: of one who is ready it is an error, and nothing is changed (22.1).
func TestWakeTwice(t *testing.T) {
	for _, policy := range policies {
		r := fresh(t, policy, 7, 1, 2)
		for i, n := range odd {
			wake(t, r, n)
			was := see(r)
			for _, again := range odd[:i+1] {
				if err := r.Wake(again); err != api.ErrThere {
					t.Fatalf("Wake(%d) once more: %d", again, err)
				}
			}
			still(t, r, was)
		}
	}
}

// TestWakeAgain: one who was ready and is not any more is the last one then (22.1).
func TestWakeAgain(t *testing.T) {
	r := fresh(t, api.PickTurn, 0)
	wake(t, r, 5, 6, 7)
	picked(t, r, 5)
	wake(t, r, 5)
	are(t, r, 6, 7, 5)
	r.Rest(7)
	wake(t, r, 7)
	are(t, r, 6, 5, 7)
	r.Rest(7)
	wake(t, r, 7)
	are(t, r, 6, 5, 7)
	picked(t, r, 6, 5, 7)
	nobody(t, r)
	wake(t, r, 7, 6)
	are(t, r, 7, 6)
}

// TestRest: of the first, of one amid them, of the last, of one who is not ready (22.2).
func TestRest(t *testing.T) {
	for _, policy := range policies {
		for _, n := range []int{1, 2, 3, 10} {
			for at := range n {
				r := fresh(t, policy, 7, -3)
				want := slices.Clone(odd[:n])
				wake(t, r, want...)
				if !r.Rest(odd[at]) {
					t.Fatalf("Rest(%d): false", odd[at])
				}
				want = slices.Delete(want, at, at+1)
				are(t, r, want...)
				went(t, r)
				was := see(r)
				for _, other := range slices.Concat(odd[n:], odd[at:at+1]) {
					if r.Rest(other) {
						t.Fatalf("Rest(%d), which is not ready: true", other)
					}
				}
				still(t, r, was)
				wake(t, r, odd[at])
				are(t, r, append(want, odd[at])...)
			}
		}
	}
}

// TestRestAll: one behind the other, in any order, until nobody is ready; that is no turn (22.2).
func TestRestAll(t *testing.T) {
	for _, order := range [][]int{{0, 1, 2, 3}, {3, 2, 1, 0}, {1, 2, 0, 3}, {2, 1, 3, 0}, {0, 3, 1, 2}} {
		r := fresh(t, api.PickTurn, 0, 1)
		want := []int{0, 1, 2, 3}
		wake(t, r, want...)
		for _, n := range order {
			if !r.Rest(n) {
				t.Fatalf("Rest(%d): false", n)
			}
			want = slices.DeleteFunc(want, func(one int) bool { return one == n })
			are(t, r, want...)
		}
		nobody(t, r)
		went(t, r)
		// The schedule stands where it stood.
		wake(t, r, 8, 9)
		picked(t, r, 9, 8)
		went(t, r, 1, 0)
	}
}

// full is ready ones of whom there are as many as may be: those from 0 on.
func full(t *testing.T, policy int, picks ...int) *ready.Ready {
	t.Helper()
	r := fresh(t, policy, 7, picks...)
	for n := range 65536 {
		if err := r.Wake(n); err != api.OK {
			t.Fatalf("Wake(%d): %d", n, err)
		}
	}
	return r
}

// TestWakeMany: as many as may be, and one more; also one of them again (22.1).
func TestWakeMany(t *testing.T) {
	r := full(t, api.PickTurn, -1)
	tooMany := func() {
		t.Helper()
		for _, n := range []int{65536, -1, math.MaxInt, math.MinInt} {
			if err := r.Wake(n); err != api.ErrMany || r.Has(n) {
				t.Fatalf("Wake(%d), one too many: %d", n, err)
			}
		}
		for _, n := range []int{1, 100, 65534} {
			if err := r.Wake(n); err != api.ErrThere {
				t.Fatalf("Wake(%d), which is ready: %d", n, err)
			}
		}
		if all := r.All(); r.Len() != 65536 || len(all) != 65536 || all[1] != 1 || all[65534] != 65534 {
			t.Fatalf("%d are ready", r.Len())
		}
	}
	tooMany()
	if err := r.Wake(0); err != api.ErrThere {
		t.Fatalf("Wake(0), which is ready: %d", err)
	}
	picked(t, r, 65535)
	wake(t, r, -9)
	tooMany()
	if !r.Rest(-9) {
		t.Fatal("Rest(-9): false")
	}
	wake(t, r, 65537)
	tooMany()
	went(t, r, 65535)
}
