package gate_test

import (
	"slices"
	"testing"

	"convoy/api"
	"convoy/gate"
)

// spoil overwrites a list that was told, and the spare room behind its end.
func spoil(list []int) {
	for i := range list[:cap(list)] {
		list[:cap(list)][i] = -77
	}
}

// TestToldIsNew: what is told is nobody else's, and stays when others come and leave (R4).
func TestToldIsNew(t *testing.T) {
	g := gate.New()
	waits(t, g, 1, 1, 2, 3)
	waits(t, g, 2, 4, 5, 6)
	waiting := g.Waiting(1)
	passed, _ := g.Pass(1, 2)
	opened, _ := g.Open(2)
	shut(t, g, 2)
	waits(t, g, 2, 6, 5, 2)
	waits(t, g, 1, 1)
	leave(t, g, 3, 1)
	told, wants := [][]int{waiting, passed, opened}, [][]int{{1, 2, 3}, {1, 2}, {4, 5, 6}}
	for i, want := range wants {
		if !slices.Equal(told[i], want) {
			t.Errorf("told at %d was %v, and is %v now", i, want, told[i])
		}
	}
	again, third := g.Waiting(2), g.Waiting(2)
	for _, list := range append(told, again) {
		spoil(list)
	}
	if !slices.Equal(third, []int{6, 5, 2}) {
		t.Errorf("Waiting(2) by another answer: %v", third)
	}
	same(t, g, state{waiting: map[int][]int{1: {1}, 2: {6, 5, 2}}})
	pass(t, g, 2, 9, 6, 5, 2)
}

// TestApart: two Gates know nothing of one another (R5).
func TestApart(t *testing.T) {
	a, b := gate.New(), gate.New()
	waits(t, a, 1, 1, 2)
	waits(t, b, 3, 1)
	open(t, b, 1)
	same(t, a, state{waiting: map[int][]int{1: {1, 2}}})
	same(t, b, state{open: []int{1}, waiting: map[int][]int{3: {1}}})
	leave(t, a, 1, 1)
	open(t, a, 3)
	same(t, a, state{open: []int{3}, waiting: map[int][]int{1: {2}}})
	same(t, b, state{open: []int{1}, waiting: map[int][]int{3: {1}}})
	same(t, gate.New(), state{})
}

// TestClone: it is the same, what is open and who waits where in which order, and goes on in the same way (7.2).
func TestClone(t *testing.T) {
	g := gate.New()
	waits(t, g, 0, 5, 1, 3)
	waits(t, g, 255, 0, -4)
	open(t, g, 9)
	leave(t, g, 1, 0)
	waits(t, g, 0, 1)
	twin := g.Clone()
	if twin == nil || twin == g {
		t.Fatal("Clone: nil, or the gates themselves")
	}
	for _, x := range []*gate.Gates{twin, g} {
		same(t, x, state{open: []int{9}, waiting: map[int][]int{0: {5, 3, 1}, 255: {0, -4}}})
		wrong(t, x, 9, 3, api.ErrTwice)
		goes(t, x, 9, 8)
		waits(t, x, 0, 8)
		pass(t, x, 0, 2, 5, 3)
		open(t, x, 255, 0, -4)
		same(t, x, state{open: []int{9, 255}, waiting: map[int][]int{0: {1, 8}}})
	}
	same(t, gate.New().Clone(), state{})
}

// TestCloneGoesItsWay: what is done to the one is not done to the other (7.2).
func TestCloneGoesItsWay(t *testing.T) {
	g := gate.New()
	waits(t, g, 1, 1, 2, 3)
	open(t, g, 2)
	twin := g.Clone()
	leave(t, g, 2, 1)
	shut(t, g, 2)
	open(t, g, 3)
	same(t, twin, state{open: []int{2}, waiting: map[int][]int{1: {1, 2, 3}}})
	third := twin.Clone()
	waits(t, twin, 1, 4)
	pass(t, twin, 1, 1, 1)
	waits(t, twin, 3, 1)
	same(t, g, state{open: []int{3}, waiting: map[int][]int{1: {1, 3}}})
	same(t, twin, state{open: []int{2}, waiting: map[int][]int{1: {2, 3, 4}, 3: {1}}})
	same(t, third, state{open: []int{2}, waiting: map[int][]int{1: {1, 2, 3}}})
	open(t, third, 1, 1, 2, 3)
	same(t, g, state{open: []int{3}, waiting: map[int][]int{1: {1, 3}}})
	same(t, twin, state{open: []int{2}, waiting: map[int][]int{1: {2, 3, 4}, 3: {1}}})
}

// TestNil: 7.3, whatever the arguments.
func TestNil(t *testing.T) {
	var g *gate.Gates
	for _, number := range append([]int{0, 1, 255}, noGates...) {
		wrong(t, g, number, 1, api.ErrArg)
		if got, err := g.Open(number); len(got) != 0 || err != api.ErrArg {
			t.Errorf("Open(%d): %v, %d", number, got, err)
		}
		if err := g.Shut(number); err != api.ErrArg {
			t.Errorf("Shut(%d): %d", number, err)
		}
		for _, n := range []int{-1, 0, 1} {
			if got, err := g.Pass(number, n); len(got) != 0 || err != api.ErrArg {
				t.Errorf("Pass(%d, %d): %v, %d", number, n, got, err)
			}
		}
		nowhere(t, g, number)
	}
	same(t, g, state{})
	if twin := g.Clone(); twin != nil {
		t.Errorf("Clone: %v", twin)
	}
}

// TestMany: more wait at one gate than one queue has room for: the chapter sets them no bound (7.1, 7.2).
func TestMany(t *testing.T) {
	const many = 2*api.MaxItems + 100
	g := gate.New()
	var whos []int
	for who := range many {
		waits(t, g, 5, who)
		whos = append(whos, who)
	}
	waits(t, g, 6, -1)
	if g.Len() != many+1 || !slices.Equal(g.Waiting(5), whos) {
		t.Fatalf("Len: %d, at one gate: %d", g.Len(), len(g.Waiting(5)))
	}
	for _, who := range []int{0, api.MaxItems, many - 1} {
		wrong(t, g, 5, who, api.ErrTwice)
	}
	twin, third := g.Clone(), g.Clone()
	for _, who := range []int{many - 1, api.MaxItems, api.MaxItems - 1, 0} {
		leave(t, g, who, 5)
		nowhere(t, g, who)
		whos = slices.DeleteFunc(whos, func(w int) bool { return w == who })
	}
	pass(t, g, 5, api.MaxItems+10, whos[:api.MaxItems+10]...)
	waits(t, g, 5, 0)
	open(t, g, 5, append(whos[api.MaxItems+10:], 0)...)
	same(t, g, state{open: []int{5}, waiting: map[int][]int{6: {-1}}})
	for who := range api.MaxItems {
		leave(t, twin, who, 5)
		leave(t, twin, who+api.MaxItems, 5)
		leave(t, third, who+api.MaxItems, 5)
	}
	if got := twin.Waiting(5); len(got) != 100 || got[0] != 2*api.MaxItems {
		t.Errorf("Waiting(5) of the clone: %v", got)
	}
	if got := third.Waiting(5); len(got) != api.MaxItems+100 || got[0] != 0 || got[api.MaxItems] != 2*api.MaxItems {
		t.Errorf("Waiting(5) of the other clone: %d", len(got))
	}
}
