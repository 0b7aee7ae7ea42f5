package gate_test

import (
	"math"
	"slices"
	"testing"

	"convoy/api"
	"convoy/gate"
)

// The calls are those that the chapter lists: a change of one does not compile.
var (
	_ func() *gate.Gates                             = gate.New
	_ func(*gate.Gates, int, int) (bool, api.Errno)  = (*gate.Gates).Come
	_ func(*gate.Gates, int) ([]int, api.Errno)      = (*gate.Gates).Open
	_ func(*gate.Gates, int) api.Errno               = (*gate.Gates).Shut
	_ func(*gate.Gates, int, int) ([]int, api.Errno) = (*gate.Gates).Pass
	_ func(*gate.Gates, int) (int, bool)             = (*gate.Gates).Leave
	_ func(*gate.Gates, int) bool                    = (*gate.Gates).IsOpen
	_ func(*gate.Gates, int) []int                   = (*gate.Gates).Waiting
	_ func(*gate.Gates, int) (int, bool)             = (*gate.Gates).Where
	_ func(*gate.Gates) int                          = (*gate.Gates).Len
	_ func(*gate.Gates) *gate.Gates                  = (*gate.Gates).Clone
)

const count = 256 // gates that there are

// least and greatest are the least and the greatest number.
const least, greatest = math.MinInt, math.MaxInt

// noGates is numbers that are those of no gates.
var noGates = []int{-1, -2, -255, -256, least, least + 1, count, count + 1, 2 * count, 65536, greatest - 1, greatest}

// state is all that can be asked of gates: those that are open, and who waits at which one, in order.
type state struct {
	open    []int
	waiting map[int][]int
}

// waits lets all of whos come to a gate that is shut.
func waits(t *testing.T, g *gate.Gates, number int, whos ...int) {
	t.Helper()
	for _, who := range whos {
		if open, err := g.Come(number, who); open || err != api.OK {
			t.Fatalf("Come(%d, %d): %t, %d, and the gate is shut", number, who, open, err)
		}
	}
}

// goes lets all of whos come to a gate that is open.
func goes(t *testing.T, g *gate.Gates, number int, whos ...int) {
	t.Helper()
	for _, who := range whos {
		if open, err := g.Come(number, who); !open || err != api.OK {
			t.Fatalf("Come(%d, %d): %t, %d, and the gate is open", number, who, open, err)
		}
	}
}

// wrong lets who come to a gate, and holds the error against one.
func wrong(t *testing.T, g *gate.Gates, number, who int, want api.Errno) {
	t.Helper()
	if open, err := g.Come(number, who); open || err != want {
		t.Fatalf("Come(%d, %d): %t, %d, not the error %d", number, who, open, err, want)
	}
}

// open opens a gate, and holds who goes through against a list.
func open(t *testing.T, g *gate.Gates, number int, want ...int) {
	t.Helper()
	if got, err := g.Open(number); !slices.Equal(got, want) || err != api.OK {
		t.Fatalf("Open(%d): %v, %d, not %v", number, got, err, want)
	}
}

// shut shuts a gate.
func shut(t *testing.T, g *gate.Gates, number int) {
	t.Helper()
	if err := g.Shut(number); err != api.OK {
		t.Fatalf("Shut(%d): %d", number, err)
	}
}

// pass lets n through, and holds them against a list.
func pass(t *testing.T, g *gate.Gates, number, n int, want ...int) {
	t.Helper()
	if got, err := g.Pass(number, n); !slices.Equal(got, want) || err != api.OK {
		t.Fatalf("Pass(%d, %d): %v, %d, not %v", number, n, got, err, want)
	}
}

// leave lets who leave, and holds the gate against a number.
func leave(t *testing.T, g *gate.Gates, who, want int) {
	t.Helper()
	if got, ok := g.Leave(who); got != want || !ok {
		t.Fatalf("Leave(%d): %d, %t, not %d", who, got, ok, want)
	}
}

// nowhere tells that who waits at no gate.
func nowhere(t *testing.T, g *gate.Gates, who int) {
	t.Helper()
	if got, ok := g.Where(who); got != 0 || ok {
		t.Fatalf("Where(%d): %d, %t, and who waits nowhere", who, got, ok)
	}
	if got, ok := g.Leave(who); got != 0 || ok {
		t.Fatalf("Leave(%d): %d, %t, and who waits nowhere", who, got, ok)
	}
}

// same holds all that can be asked of g against a state, and tries what are no gates.
func same(t *testing.T, g *gate.Gates, want state) {
	t.Helper()
	all := 0
	for number := range count {
		if got := g.IsOpen(number); got != slices.Contains(want.open, number) {
			t.Fatalf("IsOpen(%d): %t", number, got)
		}
		if got := g.Waiting(number); !slices.Equal(got, want.waiting[number]) {
			t.Fatalf("Waiting(%d): %v, not %v", number, got, want.waiting[number])
		}
		for _, who := range want.waiting[number] {
			if got, ok := g.Where(who); got != number || !ok {
				t.Fatalf("Where(%d): %d, %t, not %d", who, got, ok, number)
			}
		}
		all += len(want.waiting[number])
	}
	if got := g.Len(); got != all {
		t.Fatalf("Len: %d, not %d", got, all)
	}
	for _, number := range noGates {
		if g.IsOpen(number) || len(g.Waiting(number)) != 0 {
			t.Fatalf("the gate %d, which is none: %t, %v", number, g.IsOpen(number), g.Waiting(number))
		}
	}
}

// TestExamples: the chapter's.
func TestExamples(t *testing.T) {
	g := gate.New()
	waits(t, g, 1, 7, 8)
	wrong(t, g, 2, 7, api.ErrTwice)
	pass(t, g, 1, 1, 7)
	open(t, g, 1, 8)
	goes(t, g, 1, 9)
	wrong(t, g, 256, 1, api.ErrGate)
	same(t, g, state{open: []int{1}})
}

// TestNew: there are MaxGates gates; all are shut, and nobody waits (7.1, 7.2).
func TestNew(t *testing.T) {
	if api.MaxGates != count {
		t.Fatalf("MaxGates: %d", api.MaxGates)
	}
	g := gate.New()
	if g == nil {
		t.Fatal("New: nil")
	}
	same(t, g, state{})
	for _, who := range []int{0, 1, -1, 255, least, greatest} {
		nowhere(t, g, who)
	}
	same(t, g, state{})
}

// TestEachGate: each one from 0 to MaxGates - 1 is a gate of its own (7.1).
func TestEachGate(t *testing.T) {
	g := gate.New()
	want := state{waiting: map[int][]int{}}
	for number := range count {
		waits(t, g, number, -number-1, number+1000)
		want.waiting[number] = []int{-number - 1, number + 1000}
	}
	same(t, g, want)
	for number := range count {
		open(t, g, number, want.waiting[number]...)
		goes(t, g, number, 1)
		delete(want.waiting, number)
		want.open = append(want.open, number)
	}
	same(t, g, want)
	for number := range count {
		shut(t, g, number)
	}
	same(t, g, state{})
}

// TestNoGate: each error stands ahead of the others, and nothing is changed (7.1, R2).
func TestNoGate(t *testing.T) {
	g := gate.New()
	waits(t, g, 0, 4)
	waits(t, g, 255, 5, 6)
	open(t, g, 3)
	want := state{open: []int{3}, waiting: map[int][]int{0: {4}, 255: {5, 6}}}
	for _, number := range noGates {
		for _, who := range []int{0, 4, 5, 6, -1, 9} { // of those who wait already, too
			wrong(t, g, number, who, api.ErrGate)
		}
		if got, err := g.Open(number); len(got) != 0 || err != api.ErrGate {
			t.Errorf("Open(%d): %v, %d", number, got, err)
		}
		if err := g.Shut(number); err != api.ErrGate {
			t.Errorf("Shut(%d): %d", number, err)
		}
		for _, n := range []int{least, -1, 0, 1, 2, greatest} {
			if got, err := g.Pass(number, n); len(got) != 0 || err != api.ErrGate {
				t.Errorf("Pass(%d, %d): %v, %d", number, n, got, err)
			}
		}
	}
	same(t, g, want)
	nowhere(t, g, 9)
	nowhere(t, g, 0)
}

// TestCome: who comes to a shut gate waits behind the others; who is any number (7.1).
func TestCome(t *testing.T) {
	g := gate.New()
	waits(t, g, 0, 0, -1, greatest, least, 7)
	waits(t, g, 255, 3, -7, 2)
	same(t, g, state{waiting: map[int][]int{0: {0, -1, greatest, least, 7}, 255: {3, -7, 2}}})
	open(t, g, 0, 0, -1, greatest, least, 7)
	pass(t, g, 255, 3, 3, -7, 2)
	same(t, g, state{open: []int{0}})
}

// TestComeTwice: who waits at a gate comes to none, be it that one, another one or an open one (7.1).
func TestComeTwice(t *testing.T) {
	g := gate.New()
	open(t, g, 9)
	waits(t, g, 4, 0, 1)
	waits(t, g, 0, 2)
	for _, who := range []int{0, 1, 2} {
		for _, number := range []int{4, 0, 5, 9, 255} {
			wrong(t, g, number, who, api.ErrTwice)
		}
	}
	same(t, g, state{open: []int{9}, waiting: map[int][]int{4: {0, 1}, 0: {2}}})
}

// TestComeToOpen: who comes to an open gate does not wait there, and may come again, and elsewhere (7.1).
func TestComeToOpen(t *testing.T) {
	g := gate.New()
	open(t, g, 6)
	goes(t, g, 6, 1, 1, 0, -3)
	same(t, g, state{open: []int{6}})
	nowhere(t, g, 1)
	waits(t, g, 5, 1)
	wrong(t, g, 6, 1, api.ErrTwice)
	goes(t, g, 6, 0)
	same(t, g, state{open: []int{6}, waiting: map[int][]int{5: {1}}})
}

// TestComeAgain: who was let through, by an Open or a Pass, or has left, comes again, and stands behind (7.1, 7.2).
func TestComeAgain(t *testing.T) {
	g := gate.New()
	waits(t, g, 2, 1, 2, 3, 4)
	pass(t, g, 2, 1, 1)
	waits(t, g, 2, 1)
	leave(t, g, 3, 2)
	waits(t, g, 2, 3)
	same(t, g, state{waiting: map[int][]int{2: {2, 4, 1, 3}}})
	open(t, g, 2, 2, 4, 1, 3)
	goes(t, g, 2, 3)
	shut(t, g, 2)
	waits(t, g, 2, 3, 2)
	waits(t, g, 0, 4, 1)
	same(t, g, state{waiting: map[int][]int{2: {3, 2}, 0: {4, 1}}})
}

// TestOpenAndShut: twice each, one behind the other, and where nobody waits (7.1).
func TestOpenAndShut(t *testing.T) {
	g := gate.New()
	shut(t, g, 8)
	same(t, g, state{})
	open(t, g, 8)
	open(t, g, 8)
	same(t, g, state{open: []int{8}})
	shut(t, g, 8)
	shut(t, g, 8)
	same(t, g, state{})
	waits(t, g, 8, 1, 2)
	waits(t, g, 9, 3)
	shut(t, g, 8)
	same(t, g, state{waiting: map[int][]int{8: {1, 2}, 9: {3}}})
	open(t, g, 8, 1, 2)
	same(t, g, state{open: []int{8}, waiting: map[int][]int{9: {3}}})
	open(t, g, 8)
	shut(t, g, 8)
	waits(t, g, 8, 2)
	open(t, g, 8, 2)
	same(t, g, state{open: []int{8}, waiting: map[int][]int{9: {3}}})
}

// TestPass: 0, fewer than wait, just as many, and more; the gate stays shut (7.1).
func TestPass(t *testing.T) {
	g := gate.New()
	waits(t, g, 0, 5, 3, 9, 1)
	waits(t, g, 1, 6)
	pass(t, g, 0, 0)
	same(t, g, state{waiting: map[int][]int{0: {5, 3, 9, 1}, 1: {6}}})
	pass(t, g, 0, 1, 5)
	pass(t, g, 0, 2, 3, 9)
	same(t, g, state{waiting: map[int][]int{0: {1}, 1: {6}}})
	waits(t, g, 0, 5, 4)
	pass(t, g, 0, 3, 1, 5, 4)
	same(t, g, state{waiting: map[int][]int{1: {6}}})
	pass(t, g, 0, 1)
	pass(t, g, 0, greatest)
	waits(t, g, 0, 2, 8)
	pass(t, g, 0, 3, 2, 8)
	waits(t, g, 0, 8, 2)
	pass(t, g, 0, greatest, 8, 2)
	same(t, g, state{waiting: map[int][]int{1: {6}}})
}

// TestPassAtOpen: nobody waits there, and it stays open (7.1).
func TestPassAtOpen(t *testing.T) {
	g := gate.New()
	waits(t, g, 7, 1)
	open(t, g, 7, 1)
	for _, n := range []int{0, 1, greatest} {
		pass(t, g, 7, n)
	}
	same(t, g, state{open: []int{7}})
	goes(t, g, 7, 1)
}

// TestPassOfWrong: below 0, at a gate that is shut, at one that is open, and where nobody waits (7.1).
func TestPassOfWrong(t *testing.T) {
	g := gate.New()
	waits(t, g, 7, 1, 2)
	open(t, g, 0)
	for _, number := range []int{0, 7, 8, 255} {
		for _, n := range []int{-1, -2, least} {
			if got, err := g.Pass(number, n); len(got) != 0 || err != api.ErrArg {
				t.Errorf("Pass(%d, %d): %v, %d", number, n, got, err)
			}
		}
	}
	same(t, g, state{open: []int{0}, waiting: map[int][]int{7: {1, 2}}})
}

// TestLeave: the first one, one between and the last one leave, the others' order stays; who is gone leaves no more (7.2).
func TestLeave(t *testing.T) {
	g := gate.New()
	waits(t, g, 0, 1, 2, 3, 4, 5)
	waits(t, g, 255, 0, 6)
	leave(t, g, 3, 0)
	nowhere(t, g, 3)
	same(t, g, state{waiting: map[int][]int{0: {1, 2, 4, 5}, 255: {0, 6}}})
	leave(t, g, 1, 0)
	leave(t, g, 5, 0)
	leave(t, g, 0, 255)
	same(t, g, state{waiting: map[int][]int{0: {2, 4}, 255: {6}}})
	nowhere(t, g, 0)
	waits(t, g, 0, 7)
	pass(t, g, 0, 2, 2, 4)
	nowhere(t, g, 4)
	leave(t, g, 7, 0)
	leave(t, g, 6, 255)
	same(t, g, state{})
	open(t, g, 0)
	goes(t, g, 0, 3)
	nowhere(t, g, 3)
	nowhere(t, g, 7)
}

// TestAsking: what is asked changes nothing, however often (7.2).
func TestAsking(t *testing.T) {
	g := gate.New()
	waits(t, g, 3, 2, 1)
	open(t, g, 4)
	for range 3 {
		same(t, g, state{open: []int{4}, waiting: map[int][]int{3: {2, 1}}})
	}
	pass(t, g, 3, 5, 2, 1)
}
