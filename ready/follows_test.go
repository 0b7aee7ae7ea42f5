package ready_test

import (
	"math/rand"
	"slices"
	"testing"

	"convoy/api"
	"convoy/ready"
)

// TestExample: the example of the chapter.
func TestExample(t *testing.T) {
	r := fresh(t, api.PickTurn, 0, 1, -1)
	wake(t, r, 5, 6, 7)
	picked(t, r, 6, 7, 5)
	went(t, r, 1, 1, 0)
}

// saw counts what was met by lot.
type saw map[string]int

// enough looks that each of some things was met often.
func (w saw) enough(t *testing.T, times int, what ...string) {
	t.Helper()
	for _, one := range what {
		if w[one] < times {
			t.Errorf("%s: met %d times", one, w[one])
		}
	}
}

// somePicks is a schedule by lot.
func somePicks(lot *rand.Rand) []int {
	var picks []int
	for range lot.Intn(1 + lot.Intn(30)) {
		pick := lot.Intn(20) - 8
		if lot.Intn(4) == 0 {
			pick = odd[lot.Intn(len(odd))]
		}
		picks = append(picks, pick)
	}
	return picks
}

// someOne is a number by lot, of few.
func someOne(lot *rand.Rand) int {
	if lot.Intn(5) == 0 {
		return odd[lot.Intn(len(odd))]
	}
	return lot.Intn(30) - 10
}

// pair is ready ones, and plain ones that should be the same.
type pair struct {
	r *ready.Ready
	p *plain
}

// pickBy picks, and looks ahead of it by lot.
func (x pair) pickBy(t *testing.T, lot *rand.Rand, w saw) {
	t.Helper()
	if len(x.p.picks) == 0 {
		w["behind the schedule"]++
	}
	want, wantOk := x.p.pick()
	for range lot.Intn(3) {
		if got, ok := x.r.Peek(); got != want || ok != wantOk {
			t.Fatalf("Peek: %d, %t, not %d, %t", got, ok, want, wantOk)
		}
	}
	if got, ok := x.r.Pick(); got != want || ok != wantOk {
		t.Fatalf("Pick: %d, %t, not %d, %t", got, ok, want, wantOk)
	}
	if !wantOk {
		w["nobody"]++
	}
}

// doBy does something by lot.
func (x pair) doBy(t *testing.T, lot *rand.Rand, w saw) {
	t.Helper()
	n := someOne(lot)
	switch lot.Intn(10) {
	case 0, 1, 2, 3, 4:
		want := x.p.wake(n)
		if got := x.r.Wake(n); got != want {
			t.Fatalf("Wake(%d): %d, not %d", n, got, want)
		}
		if want != api.OK {
			w["there"]++
		}
	case 5:
		want := x.p.rest(n)
		if got := x.r.Rest(n); got != want {
			t.Fatalf("Rest(%d): %t", n, got)
		}
		if want {
			w["rested"]++
		}
	default:
		x.pickBy(t, lot, w)
	}
	are(t, x.r, x.p.ready...)
	went(t, x.r, x.p.told...)
}

// TestLikePlain holds ready ones against plain ones, by lot, with clones (22.1, 22.2).
func TestLikePlain(t *testing.T) {
	w := saw{}
	for seed := range int64(1000) {
		lot := rand.New(rand.NewSource(seed))
		var all []pair
		for range 3 {
			policy, number, picks := lot.Intn(5), lot.Uint64(), somePicks(lot)
			all = append(all, pair{fresh(t, policy, number, picks...), newPlain(policy, number, picks)})
		}
		for range 150 {
			i := lot.Intn(3)
			if lot.Intn(30) == 0 {
				j := lot.Intn(3)
				all[i] = pair{all[j].r.Clone(), all[j].p.clone()}
			}
			all[i].doBy(t, lot, w)
		}
	}
	w.enough(t, 1000, "behind the schedule", "nobody", "there", "rested")
}

// deed is something that was done to ready ones, and what it told.
type deed struct {
	what, n int
	told    int
	ok      bool
}

// do does it, and tells the same deed with what it tells.
func (d deed) do(r *ready.Ready) deed {
	switch d.what {
	case 0:
		d.told, d.ok = int(r.Wake(d.n)), true
	case 1:
		d.told, d.ok = 0, r.Rest(d.n)
	case 2:
		d.told, d.ok = r.Pick()
	case 3:
		d.told, d.ok = r.Peek()
	}
	return d
}

// TestToldIsASchedule: with Told as the schedule the same is told, by each policy and seed (22.4).
func TestToldIsASchedule(t *testing.T) {
	w := saw{}
	for seed := range int64(400) {
		lot := rand.New(rand.NewSource(seed))
		first := fresh(t, lot.Intn(5), lot.Uint64(), somePicks(lot)...)
		var deeds []deed
		for range 120 {
			deeds = append(deeds, deed{what: []int{0, 0, 0, 1, 2, 2, 3}[lot.Intn(7)], n: someOne(lot)}.do(first))
		}
		for _, policy := range policies {
			again := fresh(t, policy, lot.Uint64(), first.Told()...)
			for i, d := range deeds {
				// Of Peeks nothing is said: the place of a turn may be that of another one until the turn comes.
				if got := d.do(again); got != d && d.what != 3 {
					t.Fatalf("deed %d with Told as the schedule: %v, not %v", i, got, d)
				}
				if d.what == 2 && d.ok {
					w["picked"]++
				}
			}
			went(t, again, first.Told()...)
		}
	}
	w.enough(t, 10000, "picked")
}

// TestTurnIsFair: by PickTurn, without picks, who is ready is picked behind those who were ready ahead, and no others (22.4).
func TestTurnIsFair(t *testing.T) {
	for seed := range int64(200) {
		lot := rand.New(rand.NewSource(seed))
		r := fresh(t, api.PickTurn, lot.Uint64())
		for range 200 {
			n := someOne(lot)
			if r.Wake(n) != api.OK {
				r.Pick()
				continue
			}
			ahead := r.All()
			twin := r.Clone()
			for _, one := range ahead[:len(ahead)-1] {
				picked(t, twin, one)
				// Who comes later stands behind.
				twin.Wake(one)
				twin.Wake(1000 + one)
			}
			picked(t, twin, n)
			if got := twin.Told()[r.Turns():]; slices.ContainsFunc(got, func(place int) bool { return place != 0 }) {
				t.Fatalf("places other than the first one: %v", got)
			}
		}
	}
}

// TestSame: the same calls tell the same (R5).
func TestSame(t *testing.T) {
	for seed := range int64(100) {
		var all [2][]deed
		for i := range all {
			lot := rand.New(rand.NewSource(seed))
			r := fresh(t, lot.Intn(5), lot.Uint64(), somePicks(lot)...)
			for range 100 {
				all[i] = append(all[i], deed{what: lot.Intn(4), n: someOne(lot)}.do(r))
			}
		}
		if !slices.Equal(all[0], all[1]) {
			t.Fatal("the same calls told something else")
		}
	}
}
