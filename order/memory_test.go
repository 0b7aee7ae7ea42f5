package order_test

import (
	"slices"
	"testing"

	"convoy/api"
	"convoy/order"
)

// spoil overwrites a list, and what lies in the room behind its end.
func spoil(l []api.Key) {
	l = l[:cap(l)]
	for i := range l {
		l[i] = api.Key{Space: 99, Name: "spoilt"}
	}
}

// TestGoneIsNewMemory: what Shrink tells shares nothing with what is kept, nor with another answer (R4).
func TestGoneIsNewMemory(t *testing.T) {
	o := of(t, 9, "abcdefg")
	first, _ := o.Shrink(5)
	second, _ := o.Shrink(2)
	spoil(first)
	if !slices.Equal(second, keys("cde")) {
		t.Errorf("spoilt with another answer: %v", second)
	}
	spoil(second)
	sameLetters(t, o, 2, "fg")
	if k, _ := o.Oldest(); k != named("f") {
		t.Errorf("Oldest: %v", k)
	}
}

// TestTwoApart: two orders have nothing in common.
func TestTwoApart(t *testing.T) {
	a, b := of(t, 3, "abc"), of(t, 2, "ba")
	a.Touch(named("a"))
	b.Drop(named("b"))
	b.Use(named("d"))
	sameLetters(t, a, 3, "bca")
	sameLetters(t, b, 2, "ad")
	a.Shrink(0)
	sameLetters(t, b, 2, "ad")
}

// changes is what can be done to an order of 4 with the keys a, b, c, d, e in turn, of which a went.
var changes = []struct {
	name string
	do   func(o *order.Order)
	most int
	then string
}{
	{"Use of new", func(o *order.Order) { o.Use(named("f")) }, 4, "cdef"},
	{"Use", func(o *order.Order) { o.Use(named("c")) }, 4, "bdec"},
	{"Touch", func(o *order.Order) { o.Touch(named("b")) }, 4, "cdeb"},
	{"Drop of the oldest", func(o *order.Order) { o.Drop(named("b")) }, 4, "cde"},
	{"Drop of the latest", func(o *order.Order) { o.Drop(named("e")) }, 4, "bcd"},
	{"Drop in the midst", func(o *order.Order) { o.Drop(named("c")) }, 4, "bde"},
	{"Shrink to fewer", func(o *order.Order) { o.Shrink(1) }, 1, "e"},
	{"Shrink to none", func(o *order.Order) { o.Shrink(0) }, 0, ""},
	{"Shrink to more", func(o *order.Order) { o.Shrink(5); o.Use(named("g")) }, 5, "bcdeg"},
}

// TestClone: the clone is the same, and neither of the two sees what is done with the other (9.2).
func TestClone(t *testing.T) {
	for _, change := range changes {
		o := of(t, 4, "abcd")
		over(t, o, named("e"), named("a"))
		clone := o.Clone()
		if clone == o {
			t.Fatal("the clone is the order itself")
		}
		sameLetters(t, clone, 4, "bcde")
		change.do(o)
		sameLetters(t, o, change.most, change.then)
		sameLetters(t, clone, 4, "bcde")
		second := clone.Clone()
		change.do(clone)
		sameLetters(t, clone, change.most, change.then)
		sameLetters(t, second, 4, "bcde")
		over(t, second, named("f"), named("b"))
		sameLetters(t, clone, change.most, change.then)
	}
}

// TestCloneOfNone: one without keys has a clone of its own, too (9.2).
func TestCloneOfNone(t *testing.T) {
	for _, most := range []int{0, 1, 3} {
		o := of(t, most, "")
		clone := o.Clone()
		o.Use(named("a"))
		sameLetters(t, clone, most, "")
		clone.Use(named("b"))
		clone.Use(named("c"))
		sameLetters(t, o, most, "a"[:min(most, 1)])
	}
}

// TestCloneWhileRanged: what is ranged over is the order's, not the clone's (9.2).
func TestCloneWhileRanged(t *testing.T) {
	o := of(t, 3, "abc")
	over := o.All()
	clone := o.Clone()
	clone.Drop(named("b"))
	if got := slices.Collect(over); !slices.Equal(got, keys("abc")) {
		t.Errorf("All: %v", got)
	}
}

// TestZeroOrder: an order that New did not make is one of 0.
func TestZeroOrder(t *testing.T) {
	var o order.Order
	sameLetters(t, &o, 0, "")
	over(t, &o, named("a"), named("a"))
	sameLetters(t, o.Clone(), 0, "")
	if gone, err := o.Shrink(1); len(gone) != 0 || err != api.OK {
		t.Errorf("Shrink(1): %v, %d", gone, err)
	}
	use(t, &o, named("b"))
	sameLetters(t, &o, 1, "b")
}
