package order_test

import (
	"math/rand"
	"slices"
	"strings"
	"testing"

	"convoy/api"
	"convoy/order"
)

// TestExamples: the chapter's own.
func TestExamples(t *testing.T) {
	o := of(t, 2, "ab")
	if !o.Touch(named("a")) {
		t.Error("Touch(a): false")
	}
	over(t, o, named("c"), named("b"))
	sameLetters(t, o, 2, "ac")
	over(t, of(t, 0, ""), named("a"), named("a"))
}

// model is an order as a plain list, the oldest first.
type model struct {
	most int
	list []api.Key
}

// drop is Drop.
func (m *model) drop(k api.Key) bool {
	at := slices.Index(m.list, k)
	if at < 0 {
		return false
	}
	m.list = slices.Delete(m.list, at, at+1)
	return true
}

// touch is Touch.
func (m *model) touch(k api.Key) bool {
	there := m.drop(k)
	if there {
		m.list = append(m.list, k)
	}
	return there
}

// shrink is Shrink of what may be.
func (m *model) shrink(most int) []api.Key {
	m.most = most
	n := max(len(m.list)-most, 0)
	gone := slices.Clone(m.list[:n])
	m.list = m.list[n:]
	return gone
}

// use is Use of a key that may be.
func (m *model) use(k api.Key) []api.Key {
	m.drop(k)
	m.list = append(m.list, k)
	return m.shrink(m.most)
}

// step does one thing by lot to an order and to its model, and holds the answers against each other.
func step(t *testing.T, lot *rand.Rand, o *order.Order, m *model, k api.Key) {
	t.Helper()
	may := len(k.Name) <= 64
	switch n := lot.Intn(20); {
	case n < 11:
		gone, goes, err := o.Use(k)
		if !may {
			if gone != (api.Key{}) || goes || err != api.ErrKey {
				t.Fatalf("Use(%v): %v, %t, %d", k, gone, goes, err)
			}
			return
		}
		want := append(m.use(k), api.Key{})
		if gone != want[0] || goes != (len(want) > 1) || err != api.OK {
			t.Fatalf("Use(%v): %v, %t, %d, not %v", k, gone, goes, err, want)
		}
	case n < 14:
		if got, want := o.Touch(k), m.touch(k); got != want {
			t.Fatalf("Touch(%v): %t", k, got)
		}
	case n < 18:
		if got, want := o.Drop(k), m.drop(k); got != want {
			t.Fatalf("Drop(%v): %t", k, got)
		}
	default:
		most := lot.Intn(12) - 1
		gone, err := o.Shrink(most)
		if most < 0 {
			if len(gone) != 0 || err != api.ErrArg {
				t.Fatalf("Shrink(%d): %v, %d", most, gone, err)
			}
			return
		}
		if want := m.shrink(most); !slices.Equal(gone, want) || err != api.OK {
			t.Fatalf("Shrink(%d): %v, %d, not %v", most, gone, err, want)
		}
	}
}

// TestByLot: an order is as a plain list at every step, and a clone from any step on, too.
func TestByLot(t *testing.T) {
	lot := rand.New(rand.NewSource(9))
	names := append(strings.Split("abcdefgh", ""), "", long(64), long(65))
	for range 300 {
		m := model{most: lot.Intn(9)}
		o := of(t, m.most, "")
		for range 120 {
			k := api.Key{Space: uint16(lot.Intn(2)), Name: names[lot.Intn(len(names))]}
			kept := model{m.most, slices.Clone(m.list)}
			before := o.Clone()
			step(t, lot, o, &m, k)
			same(t, o, m.most, m.list...)
			same(t, before, kept.most, kept.list...)
			if lot.Intn(9) == 0 {
				o = o.Clone()
			}
		}
	}
}

// TestLastUsedAreThere: there are never more than most, and what was used among the last most unlike keys is there, but what was dropped (9.4).
func TestLastUsedAreThere(t *testing.T) {
	lot := rand.New(rand.NewSource(94))
	for most := range 8 {
		o := of(t, most, "")
		var used []api.Key // each once, the latest last
		dropped := map[api.Key]bool{}
		for range 2000 {
			k := api.Key{Space: uint16(lot.Intn(4)), Name: string(rune('a' + lot.Intn(4)))}
			switch lot.Intn(4) {
			case 0:
				o.Drop(k)
				dropped[k] = true
				continue
			case 1:
				if !o.Touch(k) {
					continue
				}
			default:
				if _, _, err := o.Use(k); err != api.OK {
					t.Fatalf("Use(%v): %d", k, err)
				}
			}
			delete(dropped, k)
			if at := slices.Index(used, k); at >= 0 {
				used = slices.Delete(used, at, at+1)
			}
			used = append(used, k)
			if o.Len() > most || len(all(o)) > most {
				t.Fatalf("of %d there are %d", most, o.Len())
			}
			for _, last := range used[max(len(used)-most, 0):] {
				if !o.Has(last) && !dropped[last] {
					t.Fatalf("of %d, %v was used among the last, and is not there", most, last)
				}
			}
		}
	}
}
