package gate_test

import (
	"maps"
	"math/rand"
	"slices"
	"testing"

	"convoy/api"
	"convoy/gate"
)

// plain is gates as the chapter tells them: who waits is looked for at every gate.
type plain struct{ state }

func newPlain() *plain { return &plain{state{waiting: map[int][]int{}}} }

// where is the gate at which who waits, -1 if at none.
func (p *plain) where(who int) int {
	for number, whos := range p.waiting {
		if slices.Contains(whos, who) {
			return number
		}
	}
	return -1
}

// take takes the first n who wait at a gate out.
func (p *plain) take(number, n int) []int {
	n = min(n, len(p.waiting[number]))
	out := slices.Clone(p.waiting[number][:n])
	p.waiting[number] = slices.Clone(p.waiting[number][n:])
	return out
}

func (p *plain) shut(number int) {
	p.open = slices.DeleteFunc(slices.Clone(p.open), func(n int) bool { return n == number })
}

func (p *plain) clone() *plain {
	twin := &plain{state{open: slices.Clone(p.open), waiting: maps.Clone(p.waiting)}}
	for number, whos := range twin.waiting {
		twin.waiting[number] = slices.Clone(whos)
	}
	return twin
}

// comes lets who come to a gate of both.
func comes(t *testing.T, g *gate.Gates, p *plain, number, who int) {
	t.Helper()
	switch {
	case p.where(who) >= 0:
		wrong(t, g, number, who, api.ErrTwice)
	case slices.Contains(p.open, number):
		goes(t, g, number, who)
	default:
		waits(t, g, number, who)
		p.waiting[number] = append(p.waiting[number], who)
	}
}

// leaves lets who leave both.
func leaves(t *testing.T, g *gate.Gates, p *plain, who int) {
	t.Helper()
	number := p.where(who)
	if number < 0 {
		nowhere(t, g, who)
		return
	}
	leave(t, g, who, number)
	p.waiting[number] = slices.DeleteFunc(slices.Clone(p.waiting[number]), func(w int) bool { return w == who })
}

// step plays one step by lot on gates and on plain ones.
func step(t *testing.T, lot *rand.Rand, g *gate.Gates, p *plain) {
	t.Helper()
	number, who := []int{0, 1, 7, 255}[lot.Intn(4)], lot.Intn(24)-4
	switch lot.Intn(12) {
	case 0:
		open(t, g, number, p.take(number, greatest)...)
		p.shut(number)
		p.open = append(p.open, number)
	case 1, 2:
		shut(t, g, number)
		p.shut(number)
	case 3:
		n := lot.Intn(5)
		pass(t, g, number, n, p.take(number, n)...)
	case 4, 5:
		leaves(t, g, p, who)
	default:
		comes(t, g, p, number, who)
	}
}

// TestLikePlain plays steps by lot on gates, their clones and plain ones (7.1, 7.2).
func TestLikePlain(t *testing.T) {
	lot := rand.New(rand.NewSource(7))
	for range 30 {
		gs, plains := []*gate.Gates{gate.New()}, []*plain{newPlain()}
		for range 300 {
			i := lot.Intn(len(gs))
			step(t, lot, gs[i], plains[i])
			same(t, gs[i], plains[i].state)
			if len(gs) < 4 && lot.Intn(50) == 0 {
				gs, plains = append(gs, gs[i].Clone()), append(plains, plains[i].clone())
			}
		}
		for i, g := range gs {
			same(t, g, plains[i].state)
		}
	}
}

// TestFirstComesFirst: who comes first is let through first, whoever leaves between (7.4).
func TestFirstComesFirst(t *testing.T) {
	lot := rand.New(rand.NewSource(74))
	for range 100 {
		g := gate.New()
		number := lot.Intn(count)
		came, next := map[int]int{}, 0
		last := -1
		for range 200 {
			var through []int
			switch lot.Intn(6) {
			case 0:
				through, _ = g.Pass(number, lot.Intn(3))
			case 1:
				through, _ = g.Open(number)
				shut(t, g, number)
			case 2:
				g.Leave(lot.Intn(30))
			default:
				who := lot.Intn(30)
				if _, err := g.Come(number, who); err == api.OK {
					came[who] = next
					next++
				}
			}
			for _, who := range through {
				if came[who] <= last {
					t.Fatalf("%d came at %d, and is let through behind who came at %d", who, came[who], last)
				}
				last = came[who]
			}
		}
	}
}

// TestNobodyAtOpen: nobody waits at a gate that is open, whatever is done (7.4).
func TestNobodyAtOpen(t *testing.T) {
	lot := rand.New(rand.NewSource(47))
	g := gate.New()
	for range 5000 {
		number, who := lot.Intn(6), lot.Intn(40)
		switch lot.Intn(8) {
		case 0:
			g.Open(number)
		case 1:
			g.Shut(number)
		case 2:
			g.Pass(number, lot.Intn(3))
		case 3:
			g.Leave(who)
		default:
			g.Come(number, who)
		}
		for n := range 6 {
			if g.IsOpen(n) && len(g.Waiting(n)) > 0 {
				t.Fatalf("the gate %d is open, and there wait %v", n, g.Waiting(n))
			}
		}
	}
}
