package token_test

import (
	"math"
	"slices"
	"testing"

	"convoy/api"
	"convoy/token"
)

// The calls are those that the chapter lists: a change of one does not compile.
var (
	_ func() *token.Tokens                        = token.New
	_ func(*token.Tokens, int) (int, api.Errno)   = (*token.Tokens).Make
	_ func(*token.Tokens, int) ([]int, api.Errno) = (*token.Tokens).Cancel
	_ func(*token.Tokens, int) api.Errno          = (*token.Tokens).Hold
	_ func(*token.Tokens, int) ([]int, api.Errno) = (*token.Tokens).Let
	_ func(*token.Tokens, int) bool               = (*token.Tokens).Is
	_ func(*token.Tokens, int) int                = (*token.Tokens).Holders
	_ func(*token.Tokens, int) int                = (*token.Tokens).Parent
	_ func(*token.Tokens, int) []int              = (*token.Tokens).Under
	_ func(*token.Tokens) []int                   = (*token.Tokens).Live
	_ func(*token.Tokens) int                     = (*token.Tokens).Len
	_ func(*token.Tokens, int) int                = (*token.Tokens).Why
	_ func(*token.Tokens) *token.Tokens           = (*token.Tokens).Clone
)

const most = 65536 // tokens that may be made

// row is all that can be asked of one token, but for what is under it.
type row struct{ parent, holders, why int }

// tokens is new tokens 1, 2 .. that hang on parents.
func tokens(t *testing.T, parents ...int) *token.Tokens {
	t.Helper()
	x := token.New()
	makes(t, x, parents...)
	return x
}

// makes makes tokens that hang on parents, and holds their numbers against those that come next.
func makes(t *testing.T, x *token.Tokens, parents ...int) {
	t.Helper()
	for _, parent := range parents {
		next := x.Len() + 1
		if n, err := x.Make(parent); n != next || err != api.OK {
			t.Fatalf("Make(%d): %d, %d, not %d", parent, n, err, next)
		}
	}
}

// cancel cancels n, and holds what was cancelled against a list.
func cancel(t *testing.T, x *token.Tokens, n int, want ...int) {
	t.Helper()
	if got, err := x.Cancel(n); !slices.Equal(got, want) || err != api.OK {
		t.Fatalf("Cancel(%d): %v, %d, not %v", n, got, err, want)
	}
}

// hold holds n some times.
func hold(t *testing.T, x *token.Tokens, n, times int) {
	t.Helper()
	for range times {
		if err := x.Hold(n); err != api.OK {
			t.Fatalf("Hold(%d): %d", n, err)
		}
	}
}

// let lets go of n, and holds what was cancelled against a list.
func let(t *testing.T, x *token.Tokens, n int, want ...int) {
	t.Helper()
	if got, err := x.Let(n); !slices.Equal(got, want) || err != api.OK {
		t.Fatalf("Let(%d): %v, %d, not %v", n, got, err, want)
	}
}

// noHolder tells that nobody holds n.
func noHolder(t *testing.T, x *token.Tokens, n int) {
	t.Helper()
	if got, err := x.Let(n); len(got) != 0 || err != api.ErrHeld {
		t.Fatalf("Let(%d): %v, %d, not ErrHeld", n, got, err)
	}
}

// under holds what is under n against a list.
func under(t *testing.T, x *token.Tokens, n int, want ...int) {
	t.Helper()
	if got := x.Under(n); !slices.Equal(got, want) {
		t.Fatalf("Under(%d): %v, not %v", n, got, want)
	}
}

// same holds all that can be asked of x against rows of the tokens 1, 2 .., and tries what are no tokens.
func same(t *testing.T, x *token.Tokens, rows ...row) {
	t.Helper()
	if got := x.Len(); got != len(rows) {
		t.Fatalf("Len: %d, not %d", got, len(rows))
	}
	var live []int
	for i, want := range rows {
		n := i + 1
		if got := (row{x.Parent(n), x.Holders(n), x.Why(n)}); got != want {
			t.Fatalf("the token %d: %v, not %v", n, got, want)
		}
		if got := x.Is(n); got != (want.why != 0) {
			t.Fatalf("Is(%d): %t, why %d", n, got, want.why)
		}
		if want.why == 0 {
			live = append(live, n)
		}
	}
	if got := x.Live(); !slices.Equal(got, live) {
		t.Fatalf("Live: %v, not %v", got, live)
	}
	for _, n := range noTokens(len(rows)) {
		noToken(t, x, n)
	}
}

// noTokens is numbers, 0 ahead, that are none of tokens of a count.
func noTokens(count int) []int {
	return []int{0, -1, -2, math.MinInt, math.MinInt + 1, -count, -count - 1, count + 1, count + 2, most + 1, math.MaxInt - 1, math.MaxInt}
}

// noToken tells that there is nothing to be known of n, nothing to be done with it, and nothing that hangs on it.
func noToken(t *testing.T, x *token.Tokens, n int) {
	t.Helper()
	if got := (row{x.Parent(n), x.Holders(n), x.Why(n)}); got != (row{}) || x.Is(n) || len(x.Under(n)) != 0 {
		t.Fatalf("the token %d, which is none: %v, %t, %v", n, got, x.Is(n), x.Under(n))
	}
	if got, err := x.Cancel(n); len(got) != 0 || err != api.ErrToken {
		t.Fatalf("Cancel(%d): %v, %d", n, got, err)
	}
	if err := x.Hold(n); err != api.ErrToken {
		t.Fatalf("Hold(%d): %d", n, err)
	}
	if got, err := x.Let(n); len(got) != 0 || err != api.ErrToken {
		t.Fatalf("Let(%d): %v, %d", n, got, err)
	}
	if n == 0 {
		return
	}
	if got, err := x.Make(n); got != 0 || err != api.ErrToken {
		t.Fatalf("Make(%d): %d, %d", n, got, err)
	}
}

// TestExamples: the chapter's.
func TestExamples(t *testing.T) {
	x := tokens(t, 0, 1, 2, 0)
	cancel(t, x, 2, 2, 3)
	same(t, x, row{}, row{1, 0, 2}, row{2, 0, 2}, row{})
	makes(t, x, 3)
	same(t, x, row{}, row{1, 0, 2}, row{2, 0, 2}, row{}, row{3, 0, 2})
	hold(t, x, 4, 2)
	let(t, x, 4)
	let(t, x, 4, 4)
	noHolder(t, x, 4)
	same(t, x, row{}, row{1, 0, 2}, row{2, 0, 2}, row{0, 0, 4}, row{3, 0, 2})
}

// TestNone: of no tokens at all there is nothing to be known (6.1 to 6.3).
func TestNone(t *testing.T) {
	x := token.New()
	if x == nil {
		t.Fatal("New: nil")
	}
	same(t, x)
	same(t, x)
	noToken(t, x, 1)
	makes(t, x, 0)
	same(t, x, row{})
}

// TestMake: numbers rise by one from 1 on, whatever is cancelled between; a wrong parent makes nothing (6.1).
func TestMake(t *testing.T) {
	x := tokens(t, 0, 0, 1, 3, 1, 2)
	same(t, x, row{}, row{}, row{1, 0, 0}, row{3, 0, 0}, row{1, 0, 0}, row{2, 0, 0})
	cancel(t, x, 6, 6)
	for _, parent := range []int{7, 8, -1, math.MinInt, math.MaxInt} {
		if n, err := x.Make(parent); n != 0 || err != api.ErrToken {
			t.Errorf("Make(%d): %d, %d", parent, n, err)
		}
	}
	makes(t, x, 0, 7)
	same(t, x, row{}, row{}, row{1, 0, 0}, row{3, 0, 0}, row{1, 0, 0}, row{2, 0, 6}, row{}, row{7, 0, 0})
}

// TestMakeOnCancelled: what hangs on a cancelled token is cancelled at once, for the reason of its parent (6.1, 6.3).
func TestMakeOnCancelled(t *testing.T) {
	x := tokens(t, 0, 1, 2)
	cancel(t, x, 3, 3)
	cancel(t, x, 1, 1, 2)
	makes(t, x, 3, 2, 1, 4, 0, 8)
	want := []row{{0, 0, 1}, {1, 0, 1}, {2, 0, 3}, {3, 0, 3}, {2, 0, 1}, {1, 0, 1}, {4, 0, 3}, {}, {8, 0, 0}}
	same(t, x, want...)
	for n := 1; n <= 7; n++ {
		cancel(t, x, n)
	}
	same(t, x, want...)
	under(t, x, 1, 2, 3, 4, 5, 6, 7)
	under(t, x, 3, 4, 7)
}

// TestCancel: all live ones under it go, at any depth and beside one another, rising; no others (6.1).
func TestCancel(t *testing.T) {
	// 1 has 2, 3 and 8 on it; 2 has 5 and 9; 3 has 4; 4 has 10; 6 has 7.
	x := tokens(t, 0, 1, 1, 3, 2, 0, 6, 1, 2, 4)
	twin := x.Clone()
	cancel(t, x, 3, 3, 4, 10)
	same(t, x, row{}, row{1, 0, 0}, row{1, 0, 3}, row{3, 0, 3}, row{2, 0, 0}, row{}, row{6, 0, 0}, row{1, 0, 0}, row{2, 0, 0}, row{4, 0, 3})
	cancel(t, x, 9, 9)
	cancel(t, x, 1, 1, 2, 5, 8)
	same(t, x, row{0, 0, 1}, row{1, 0, 1}, row{1, 0, 3}, row{3, 0, 3}, row{2, 0, 1}, row{}, row{6, 0, 0}, row{1, 0, 1}, row{2, 0, 9}, row{4, 0, 3})
	for _, n := range []int{1, 2, 3, 4, 5, 8, 9, 10} {
		cancel(t, x, n)
	}
	cancel(t, x, 6, 6, 7)
	if live := x.Live(); len(live) != 0 {
		t.Errorf("Live: %v", live)
	}
	cancel(t, twin, 1, 1, 2, 3, 4, 5, 8, 9, 10)
	same(t, twin, row{0, 0, 1}, row{1, 0, 1}, row{1, 0, 1}, row{3, 0, 1}, row{2, 0, 1}, row{}, row{6, 0, 0}, row{1, 0, 1}, row{2, 0, 1}, row{4, 0, 1})
}

// TestCancelBehindItsChildren: those that were cancelled ahead are not told again, and keep their reason (6.1, 6.3).
func TestCancelBehindItsChildren(t *testing.T) {
	x := tokens(t, 0, 1, 1, 2, 3)
	cancel(t, x, 2, 2, 4)
	cancel(t, x, 3, 3, 5)
	cancel(t, x, 1, 1)
	same(t, x, row{0, 0, 1}, row{1, 0, 2}, row{1, 0, 3}, row{2, 0, 2}, row{3, 0, 3})
}

// TestCancelOfOneAlone: neither its parent nor one beside it goes (6.1).
func TestCancelOfOneAlone(t *testing.T) {
	x := tokens(t, 0, 1, 1, 1)
	cancel(t, x, 3, 3)
	cancel(t, x, 3)
	same(t, x, row{}, row{1, 0, 0}, row{1, 0, 3}, row{1, 0, 0})
	cancel(t, x, 4, 4)
	cancel(t, x, 1, 1, 2)
}

// TestHold: a holder is counted, of a cancelled token too, and holds nothing else (6.2).
func TestHold(t *testing.T) {
	x := tokens(t, 0, 1, 0)
	hold(t, x, 1, 3)
	hold(t, x, 2, 1)
	same(t, x, row{0, 3, 0}, row{1, 1, 0}, row{})
	cancel(t, x, 1, 1, 2)
	same(t, x, row{0, 3, 1}, row{1, 1, 1}, row{})
	hold(t, x, 1, 1)
	hold(t, x, 2, 2)
	same(t, x, row{0, 4, 1}, row{1, 3, 1}, row{})
}

// TestLet: the last one who lets go cancels, with all that hangs on it; no other does (6.2).
func TestLet(t *testing.T) {
	x := tokens(t, 0, 1, 2, 1)
	noHolder(t, x, 2)
	hold(t, x, 2, 3)
	hold(t, x, 3, 1)
	let(t, x, 2)
	let(t, x, 2)
	same(t, x, row{}, row{1, 1, 0}, row{2, 1, 0}, row{1, 0, 0})
	let(t, x, 2, 2, 3)
	same(t, x, row{}, row{1, 0, 2}, row{2, 1, 2}, row{1, 0, 0})
	noHolder(t, x, 2)
	noHolder(t, x, 1)
	noHolder(t, x, 4)
	same(t, x, row{}, row{1, 0, 2}, row{2, 1, 2}, row{1, 0, 0})
	hold(t, x, 1, 1)
	let(t, x, 1, 1, 4)
	same(t, x, row{0, 0, 1}, row{1, 0, 2}, row{2, 1, 2}, row{1, 0, 1})
}

// TestLetOfCancelled: the last one who lets go of what is cancelled cancels nothing more, and its reason stays (6.2, 6.3).
func TestLetOfCancelled(t *testing.T) {
	x := tokens(t, 0, 1, 2)
	hold(t, x, 2, 2)
	hold(t, x, 3, 1)
	cancel(t, x, 1, 1, 2, 3)
	let(t, x, 2)
	let(t, x, 2)
	noHolder(t, x, 2)
	let(t, x, 3)
	noHolder(t, x, 3)
	makes(t, x, 2)
	hold(t, x, 4, 1)
	let(t, x, 4)
	noHolder(t, x, 4)
	same(t, x, row{0, 0, 1}, row{1, 0, 1}, row{2, 0, 1}, row{2, 0, 1})
}

// TestLetTwice: who holds what was held and let once before finds it cancelled (6.2).
func TestLetTwice(t *testing.T) {
	x := tokens(t, 0)
	hold(t, x, 1, 1)
	let(t, x, 1, 1)
	hold(t, x, 1, 1)
	same(t, x, row{0, 1, 1})
	let(t, x, 1)
	same(t, x, row{0, 0, 1})
}

// TestWhy: of one that was cancelled by itself, by one on which it hangs, by a Let, as it was made, and of a live one (6.3).
func TestWhy(t *testing.T) {
	x := tokens(t, 0, 1, 2, 3, 0, 5)
	cancel(t, x, 3, 3, 4)
	hold(t, x, 2, 1)
	let(t, x, 2, 2)
	cancel(t, x, 1, 1)
	makes(t, x, 4, 2, 6, 8)
	for n, want := range []int{0, 1, 2, 3, 3, 0, 0, 3, 2, 0, 2} {
		if got := x.Why(n); got != want {
			t.Errorf("Why(%d): %d, not %d", n, got, want)
		}
	}
}

// TestUnder: at any depth, live or not, rising, and without the token itself (6.3).
func TestUnder(t *testing.T) {
	x := tokens(t, 0, 1, 1, 3, 2, 0, 6, 1, 2, 4)
	want := [][]int{nil, {2, 3, 4, 5, 8, 9, 10}, {5, 9}, {4, 10}, {10}, nil, {7}, nil, nil, nil, nil, nil}
	for n, list := range want {
		under(t, x, n, list...)
	}
	cancel(t, x, 4, 4, 10)
	cancel(t, x, 1, 1, 2, 3, 5, 8, 9)
	for n, list := range want {
		under(t, x, n, list...)
	}
}
