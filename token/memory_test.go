package token_test

import (
	"slices"
	"testing"

	"convoy/api"
	"convoy/token"
)

// spoil overwrites a list that was told, and the spare room behind its end.
func spoil(list []int) {
	for i := range list[:cap(list)] {
		list[:cap(list)][i] = -7
	}
}

// TestToldIsNew: what is told is nobody else's, and what is told stays when more is made or cancelled (R4).
func TestToldIsNew(t *testing.T) {
	x := tokens(t, 0, 1, 1, 3, 0, 5)
	below, live := x.Under(1), x.Live()
	hold(t, x, 5, 1)
	gone, _ := x.Cancel(3)
	left, _ := x.Let(5)
	makes(t, x, 2, 1, 0)
	cancel(t, x, 1, 1, 2, 7, 8)
	told := [][]int{below, live, gone, left}
	wants := [][]int{{2, 3, 4}, {1, 2, 3, 4, 5, 6}, {3, 4}, {5, 6}}
	for i, want := range wants {
		if !slices.Equal(told[i], want) {
			t.Errorf("told at %d was %v, and is %v now", i, want, told[i])
		}
	}
	want := []row{{0, 0, 1}, {1, 0, 1}, {1, 0, 3}, {3, 0, 3}, {0, 0, 5}, {5, 0, 5}, {2, 0, 1}, {1, 0, 1}, {}}
	again, third := x.Under(1), x.Under(1)
	for _, list := range append(told, x.Live(), again) {
		spoil(list)
	}
	same(t, x, want...)
	if !slices.Equal(third, []int{2, 3, 4, 7, 8}) {
		t.Errorf("Under(1) by another answer: %v", third)
	}
	under(t, x, 1, 2, 3, 4, 7, 8)
	under(t, x, 5, 6)
}

// TestApart: two Tokens know nothing of one another (R5).
func TestApart(t *testing.T) {
	a, b := tokens(t, 0, 1, 2), tokens(t, 0, 0)
	hold(t, a, 2, 2)
	cancel(t, b, 2, 2)
	same(t, a, row{}, row{1, 2, 0}, row{2, 0, 0})
	cancel(t, a, 1, 1, 2, 3)
	same(t, b, row{}, row{0, 0, 2})
	makes(t, b, 1)
	same(t, a, row{0, 0, 1}, row{1, 2, 1}, row{2, 0, 1})
	same(t, token.New())
}

// TestClone: it is the same, numbers, holders, reasons and what hangs on what, and goes on in the same way (6.3).
func TestClone(t *testing.T) {
	x := tokens(t, 0, 1, 2, 1, 0)
	hold(t, x, 1, 2)
	hold(t, x, 5, 1)
	cancel(t, x, 2, 2, 3)
	want := []row{{0, 2, 0}, {1, 0, 2}, {2, 0, 2}, {1, 0, 0}, {0, 1, 0}}
	twin := x.Clone()
	if twin == nil || twin == x {
		t.Fatal("Clone: nil, or the tokens themselves")
	}
	for _, y := range []*token.Tokens{twin, x} {
		same(t, y, want...)
		under(t, y, 1, 2, 3, 4)
		makes(t, y, 4, 3)
		let(t, y, 1)
		let(t, y, 1, 1, 4, 6)
		same(t, y, row{0, 0, 1}, row{1, 0, 2}, row{2, 0, 2}, row{1, 0, 1}, row{0, 1, 0}, row{4, 0, 1}, row{3, 0, 2})
		under(t, y, 1, 2, 3, 4, 6, 7)
	}
	same(t, token.New().Clone())
}

// TestCloneGoesItsWay: what is done to the one is not done to the other (6.3).
func TestCloneGoesItsWay(t *testing.T) {
	x := tokens(t, 0, 1, 1)
	twin := x.Clone()
	makes(t, x, 2)
	makes(t, twin, 3, 0)
	under(t, x, 1, 2, 3, 4)
	under(t, x, 2, 4)
	under(t, x, 3)
	under(t, twin, 1, 2, 3, 4)
	under(t, twin, 2)
	under(t, twin, 3, 4)
	hold(t, x, 1, 1)
	cancel(t, twin, 2, 2)
	same(t, x, row{0, 1, 0}, row{1, 0, 0}, row{1, 0, 0}, row{2, 0, 0})
	same(t, twin, row{}, row{1, 0, 2}, row{1, 0, 0}, row{3, 0, 0}, row{})
	third := twin.Clone()
	let(t, x, 1, 1, 2, 3, 4)
	cancel(t, twin, 1, 1, 3, 4)
	makes(t, third, 5, 5)
	same(t, x, row{0, 0, 1}, row{1, 0, 1}, row{1, 0, 1}, row{2, 0, 1})
	same(t, twin, row{0, 0, 1}, row{1, 0, 2}, row{1, 0, 1}, row{3, 0, 1}, row{})
	same(t, third, row{}, row{1, 0, 2}, row{1, 0, 0}, row{3, 0, 0}, row{}, row{5, 0, 0}, row{5, 0, 0})
}

// full is as many tokens as there may be, each on what on says.
func full(t *testing.T, on func(n int) int) *token.Tokens {
	t.Helper()
	x := token.New()
	for n := 1; n <= most; n++ {
		if got, err := x.Make(on(n)); got != n || err != api.OK {
			t.Fatalf("Make, %d times: %d, %d", n, got, err)
		}
	}
	return x
}

// isFull tells that no more can be made, of which a wrong parent is told ahead.
func isFull(t *testing.T, x *token.Tokens) {
	t.Helper()
	for _, parent := range []int{0, 1, most} {
		if n, err := x.Make(parent); n != 0 || err != api.ErrMany {
			t.Errorf("Make(%d) of too many: %d, %d", parent, n, err)
		}
	}
	for _, parent := range []int{-1, most + 1} {
		if n, err := x.Make(parent); n != 0 || err != api.ErrToken {
			t.Errorf("Make(%d) of too many: %d, %d", parent, n, err)
		}
	}
	if got := x.Len(); got != most {
		t.Errorf("Len: %d", got)
	}
}

// TestMost: MaxAll tokens may be, also if some are cancelled, and not one more (6.1).
func TestMost(t *testing.T) {
	if api.MaxAll != most {
		t.Fatalf("MaxAll: %d", api.MaxAll)
	}
	none := func(int) int { return 0 }
	x := full(t, none)
	isFull(t, x)
	isFull(t, x.Clone())
	cancel(t, x, most, most)
	isFull(t, x)
	if live := x.Live(); len(live) != most-1 || live[most-2] != most-1 {
		t.Errorf("Live: %d", len(live))
	}
	for n := 1; n < most; n++ {
		cancel(t, x, n, n)
	}
	isFull(t, x)
	if live := x.Live(); len(live) != 0 {
		t.Errorf("Live: %d", len(live))
	}
}

// TestMostDeep: MaxAll tokens, each on the one ahead of it, are cancelled as one, and from the last one on (6.1, 6.3).
func TestMostDeep(t *testing.T) {
	x := full(t, func(n int) int { return n - 1 })
	isFull(t, x)
	twin := x.Clone()
	if below := x.Under(1); len(below) != most-1 || below[0] != 2 || !slices.IsSorted(below) {
		t.Errorf("Under(1): %d", len(below))
	}
	if gone, err := x.Cancel(1); len(gone) != most || gone[0] != 1 || !slices.IsSorted(gone) || err != api.OK {
		t.Errorf("Cancel(1): %d, %d", len(gone), err)
	}
	if why := x.Why(most); why != 1 {
		t.Errorf("Why of the last one: %d", why)
	}
	for n := most; n > 0; n-- {
		cancel(t, twin, n, n)
	}
}

// TestNil: 6.4, whatever the arguments.
func TestNil(t *testing.T) {
	var x *token.Tokens
	for range 2 {
		if n, err := x.Make(0); n != 0 || err != api.ErrMany {
			t.Errorf("Make(0): %d, %d", n, err)
		}
		same(t, x)
		noToken(t, x, 1)
		if twin := x.Clone(); twin != nil {
			t.Errorf("Clone: %v", twin)
		}
	}
}
