package token_test

import (
	"math/rand"
	"slices"
	"testing"

	"convoy/api"
	"convoy/token"
)

// plain is tokens as the chapter tells them: each asks its parent, one by one.
type plain struct{ rows []row }

// hangs tells whether n hangs on m, or on one that does.
func (p *plain) hangs(n, m int) bool {
	for n != 0 {
		n = p.rows[n-1].parent
		if n == m {
			return true
		}
	}
	return false
}

func (p *plain) make(parent int) {
	made := row{parent: parent}
	if parent != 0 {
		made.why = p.rows[parent-1].why
	}
	p.rows = append(p.rows, made)
}

func (p *plain) under(n int) []int {
	var list []int
	for m := range p.rows {
		if p.hangs(m+1, n) {
			list = append(list, m+1)
		}
	}
	return list
}

func (p *plain) cancel(n int) []int {
	if p.rows[n-1].why != 0 {
		return nil
	}
	var gone []int
	for i := range p.rows {
		if p.rows[i].why == 0 && (i+1 == n || p.hangs(i+1, n)) {
			p.rows[i].why = n
			gone = append(gone, i+1)
		}
	}
	return gone
}

func (p *plain) let(n int) ([]int, api.Errno) {
	if p.rows[n-1].holders == 0 {
		return nil, api.ErrHeld
	}
	p.rows[n-1].holders--
	if p.rows[n-1].holders > 0 {
		return nil, api.OK
	}
	return p.cancel(n), api.OK
}

// step plays one step by lot on tokens and on plain ones.
func step(t *testing.T, lot *rand.Rand, x *token.Tokens, p *plain) {
	t.Helper()
	n := lot.Intn(len(p.rows) + 1)
	what := lot.Intn(10)
	switch {
	case what < 4 || n == 0:
		p.make(n)
		makes(t, x, n)
	case what < 6:
		p.rows[n-1].holders++
		hold(t, x, n, 1)
	case what < 8:
		want, wrong := p.let(n)
		if got, err := x.Let(n); !slices.Equal(got, want) || err != wrong {
			t.Fatalf("Let(%d): %v, %d, not %v, %d", n, got, err, want, wrong)
		}
	case lot.Intn(2) == 0:
		cancel(t, x, n, p.cancel(n)...)
	default:
		under(t, x, n, p.under(n)...)
	}
}

// TestLikePlain plays steps by lot on tokens, their clones and plain ones (6.1 to 6.3).
func TestLikePlain(t *testing.T) {
	lot := rand.New(rand.NewSource(6))
	for range 100 {
		xs, plains := []*token.Tokens{token.New()}, []*plain{{}}
		for range 200 {
			i := lot.Intn(len(xs))
			step(t, lot, xs[i], plains[i])
			same(t, xs[i], plains[i].rows...)
			if len(xs) < 4 && lot.Intn(40) == 0 {
				xs, plains = append(xs, xs[i].Clone()), append(plains, &plain{slices.Clone(plains[i].rows)})
			}
		}
		for i, x := range xs {
			same(t, x, plains[i].rows...)
			for n := range plains[i].rows {
				under(t, x, n+1, plains[i].under(n+1)...)
			}
		}
	}
}

// above is a token and those on which it hangs.
func above(x *token.Tokens, n int) []int {
	var list []int
	for ; n != 0; n = x.Parent(n) {
		list = append(list, n)
	}
	return list
}

// TestFollows: what hangs on a cancelled one is cancelled, by it or one on which it hangs, which is cancelled, too (6.5).
func TestFollows(t *testing.T) {
	lot := rand.New(rand.NewSource(65))
	for range 60 {
		x := token.New()
		for range 120 {
			n := lot.Intn(x.Len() + 1)
			switch lot.Intn(6) {
			case 0:
				x.Hold(n)
			case 1:
				x.Let(n)
			case 2:
				alone := len(x.Under(n)) == 0
				if gone, _ := x.Cancel(n); alone && len(gone) > 1 {
					t.Fatalf("Cancel(%d), on which nothing hangs: %v", n, gone)
				}
			default:
				x.Make(n)
			}
			for m := 1; m <= x.Len(); m++ {
				if x.Is(x.Parent(m)) && !x.Is(m) {
					t.Fatalf("%d is live, and %d, on which it hangs, is cancelled", m, x.Parent(m))
				}
				if x.Is(m) && (!slices.Contains(above(x, m), x.Why(m)) || !x.Is(x.Why(m))) {
					t.Fatalf("Why(%d): %d, of %v", m, x.Why(m), above(x, m))
				}
			}
		}
	}
}
