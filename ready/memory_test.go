package ready_test

import (
	"runtime"
	"slices"
	"testing"

	"convoy/api"
	"convoy/ready"
)

// spoil overwrites a list, and what lies in the room behind its end.
func spoil(l []int) {
	l = l[:cap(l)]
	for i := range l {
		l[i] = 77
	}
}

// TestHandedIn: picks that are handed in stay as they were, their spare room too (R4).
func TestHandedIn(t *testing.T) {
	for _, policy := range slices.Concat(policies, []int{-1, 5}) {
		for _, size := range []int{20, 65537, 65540} {
			room := make([]int, size)
			for i := range room {
				room[i] = 3*i - 20
			}
			was := slices.Clone(room)
			for _, n := range []int{0, 1, 5, 20, size} {
				r, err := ready.New(policy, 7, room[:n])
				if err == api.OK {
					for i := range 30 {
						r.Wake(i % 7)
						r.Pick()
						r.Wake(i % 5)
					}
					see(r)
				}
				if !slices.Equal(room, was) {
					t.Fatal("changed what was handed in")
				}
			}
		}
	}
}

// TestPicksAreNotKept: what becomes of a list that was handed in is nothing to the ready ones (R4).
func TestPicksAreNotKept(t *testing.T) {
	for _, n := range []int{0, 1, 5, 20} {
		room := make([]int, 20)
		for i := range room {
			room[i] = 3*i - 20
		}
		r := fresh(t, api.PickTurn, 0, room[:n]...)
		wake(t, r, 1, 2, 3, 4)
		was := see(r)
		twin := r.Clone()
		spoil(room)
		still(t, r, was)
		still(t, twin, was)
	}
}

// TestListsApart: an answer shares no memory with another one, nor with what is kept (R4).
func TestListsApart(t *testing.T) {
	r, p := fresh(t, api.PickTurn, 0, 1, -1), newPlain(0, 0, []int{1, -1})
	for i := range 40 {
		all, told := r.All(), r.Told()
		keptAll, keptTold := slices.Clone(all), slices.Clone(told)
		was := see(r)
		spoil(r.All())
		spoil(r.Told())
		still(t, r, was)
		wake(t, r, i)
		p.wake(i)
		if i%3 == 2 {
			n, _ := p.pick()
			picked(t, r, n)
		}
		if i%5 == 4 && r.Rest(i-1) != p.rest(i-1) {
			t.Fatalf("Rest(%d)", i-1)
		}
		if !slices.Equal(all, keptAll) || !slices.Equal(told, keptTold) {
			t.Fatalf("an answer was changed: %v, %v", all, told)
		}
		are(t, r, p.ready...)
		went(t, r, p.told...)
	}
}

// busy is ready ones with something of all kinds, within their schedule.
func busy(t *testing.T, policy int, seed uint64) *ready.Ready {
	t.Helper()
	r := fresh(t, policy, seed, 1, -1, 2, 5)
	wake(t, r, 4, 8, 2, 6, 9, 3)
	picked(t, r, 8, 3)
	return r
}

// behind is the same behind the schedule.
func behind(t *testing.T, policy int, seed uint64) *ready.Ready {
	t.Helper()
	r := busy(t, policy, seed)
	for range 4 {
		r.Pick()
	}
	wake(t, r, 5, 1, 7, 3, -2)
	r.Pick()
	return r
}

// changes is what can be done to ready ones.
var changes = []func(r *ready.Ready){
	func(r *ready.Ready) { r.Wake(50) },
	func(r *ready.Ready) { r.Pick() },
	func(r *ready.Ready) { r.Rest(r.All()[0]) },
	func(r *ready.Ready) { r.Rest(r.All()[1]) },
	func(r *ready.Ready) { r.Rest(r.All()[r.Len()-1]) },
	func(r *ready.Ready) {
		for r.Len() > 2 {
			r.Pick()
		}
	},
	func(r *ready.Ready) {
		for i := range 20 {
			r.Wake(60 + i)
			r.Pick()
		}
	},
}

// TestClone: the clone is the same, and neither of the two sees what is done with the other (22.2).
func TestClone(t *testing.T) {
	for _, policy := range policies {
		for i, one := range changes {
			for _, other := range changes {
				for _, r := range []*ready.Ready{busy(t, policy, 7), behind(t, policy, 7)} {
					was := see(r)
					twin := r.Clone()
					if twin == nil || twin == r {
						t.Fatal("the clone is none, or the ready ones themselves")
					}
					still(t, twin, was)
					one(r)
					then := see(r)
					if then.same(was) {
						t.Fatalf("the change %d is none", i)
					}
					still(t, twin, was)
					other(twin)
					still(t, r, then)
					third := twin.Clone()
					twin.Wake(99)
					third.Wake(99)
					still(t, third, see(twin))
					still(t, r, then)
				}
			}
		}
		nobody(t, fresh(t, policy, 0).Clone())
	}
}

// TestCloneHas: a clone of one of whom nobody is ready goes its own way, too (22.2).
func TestCloneHas(t *testing.T) {
	r := fresh(t, api.PickTurn, 0)
	twin := r.Clone()
	wake(t, r, 1)
	nobody(t, twin)
	wake(t, twin, 2, 1)
	are(t, r, 1)
	are(t, twin, 2, 1)
	third := r.Clone()
	picked(t, r, 1)
	are(t, third, 1)
	wake(t, third, 3)
	nobody(t, r)
}

// TestCloneRoom: nor where both go on in the room that was left (22.2).
func TestCloneRoom(t *testing.T) {
	for n := range 20 {
		r := fresh(t, api.PickLast, 0)
		for i := range n {
			wake(t, r, i)
		}
		var told []int
		for range n {
			wake(t, r, -1)
			picked(t, r, -1)
			told = append(told, n)
		}
		all := r.All()
		twin := r.Clone()
		wake(t, r, 100)
		wake(t, twin, 200, 201)
		are(t, r, append(slices.Clone(all), 100)...)
		are(t, twin, append(slices.Clone(all), 200, 201)...)
		picked(t, r, 100)
		picked(t, twin, 201)
		went(t, r, append(slices.Clone(told), n)...)
		went(t, twin, append(slices.Clone(told), n+1)...)
	}
}

// TestApart: two of one policy, seed and schedule know nothing of one another (R5).
func TestApart(t *testing.T) {
	for _, policy := range policies {
		one, other := behind(t, policy, 7), behind(t, policy, 7)
		was := see(other)
		for _, change := range changes {
			wake(t, one, 90, 91, 92)
			change(one)
			still(t, other, was)
			one.Rest(90)
			one.Rest(91)
			one.Rest(92)
			one.Rest(50)
		}
	}
}

// TestSeeds: another seed draws otherwise (22.2).
func TestSeeds(t *testing.T) {
	drawn := map[string]int{}
	for seed := range uint64(100) {
		r := fresh(t, api.PickLot, seed)
		for n := range 26 {
			wake(t, r, n)
		}
		text := ""
		for n, ok := r.Pick(); ok; n, ok = r.Pick() {
			text += string(rune('a' + n))
		}
		drawn[text]++
	}
	if len(drawn) != 100 {
		t.Errorf("100 seeds drew %d orders", len(drawn))
	}
}

// TestNothingMoreIsKept: who rests, and what was refused, takes no room.
func TestNothingMoreIsKept(t *testing.T) {
	r := fresh(t, api.PickTurn, 0)
	wake(t, r, -1, -2)
	for n := range 300000 {
		r.Wake(n)
		r.Wake(-1)
		r.Peek()
		r.Rest(n)
		r.Rest(n + 1)
	}
	are(t, r, -1, -2)
	var before, after runtime.MemStats
	runtime.GC()
	runtime.ReadMemStats(&before)
	twin := r.Clone()
	runtime.ReadMemStats(&after)
	runtime.KeepAlive(twin)
	if bytes := after.TotalAlloc - before.TotalAlloc; bytes > 8192 {
		t.Errorf("two who are ready take %d bytes", bytes)
	}
}
