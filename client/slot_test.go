package client_test

import (
	"math"
	"testing"

	"convoy/api"
	"convoy/client"
)

// noSlots is numbers that are none of a slot.
var noSlots = []int{math.MinInt, -16, -1, 16, 17, 256, 1 << 32, math.MaxInt}

// put makes a slot pending.
func put(t *testing.T, c *client.Client, slot, caller int) {
	t.Helper()
	was := see(c)
	if err := c.Put(slot, caller); err != api.OK {
		t.Fatalf("Put(%d, %d): %d", slot, caller, err)
	}
	was.slots[slot] = slotState{what: api.SlotPending, caller: caller}
	still(t, c, was)
}

// fill fills a slot that is pending.
func fill(t *testing.T, c *client.Client, slot, caller int, g api.Got) {
	t.Helper()
	was := see(c)
	if !c.Fill(slot, caller, g) {
		t.Fatalf("Fill(%d, %d): false", slot, caller)
	}
	was.slots[slot] = slotState{what: api.SlotFull, got: g}
	still(t, c, was)
}

// noFill looks that a slot is not filled, and all stays as it was.
func noFill(t *testing.T, c *client.Client, slot, caller int) {
	t.Helper()
	was := see(c)
	if c.Fill(slot, caller, api.Got{Place: 1, How: 2, Outcome: api.Outcome{Value: 77}, At: 3}) {
		t.Fatalf("Fill(%d, %d): true", slot, caller)
	}
	still(t, c, was)
}

// take holds what is taken from a slot against what it should be.
func take(t *testing.T, c *client.Client, slot, want int, wantGot api.Got) {
	t.Helper()
	was := see(c)
	if g, what, err := c.Take(slot); g != wantGot || what != want || err != api.OK {
		t.Fatalf("Take(%d): %v, %d, %d, not %v, %d", slot, g, what, err, wantGot, want)
	}
	if want == api.SlotFull {
		was.slots[slot] = slotState{what: api.SlotEmpty}
	}
	still(t, c, was)
}

// TestSlot: each slot, from empty to pending, full and empty again, by itself (21.3).
func TestSlot(t *testing.T) {
	c := busy(t)
	for slot := range 16 {
		c.Put(slot, 1)
		c.Fill(slot, 1, api.Got{})
		c.Take(slot)
	}
	for slot := range 16 {
		g := api.Got{Place: slot % 4, How: slot % 7, Outcome: api.Outcome{Value: int64(slot)}, At: 7}
		take(t, c, slot, api.SlotEmpty, api.Got{})
		take(t, c, slot, api.SlotEmpty, api.Got{})
		put(t, c, slot, slot/4+1)
		take(t, c, slot, api.SlotPending, api.Got{})
		take(t, c, slot, api.SlotPending, api.Got{})
		fill(t, c, slot, slot/4+1, g)
		if slot%3 != 0 {
			take(t, c, slot, api.SlotFull, g)
			take(t, c, slot, api.SlotEmpty, api.Got{})
			take(t, c, slot, api.SlotEmpty, api.Got{})
		}
	}
}

// TestPutOver: whatever was there, the slot is pending for the last caller alone (21.3).
func TestPutOver(t *testing.T) {
	c := busy(t)
	put(t, c, 0, 1)
	put(t, c, 0, 2)
	noFill(t, c, 0, 1)
	put(t, c, 0, 2)
	put(t, c, 0, 3)
	take(t, c, 0, api.SlotPending, api.Got{})
	fill(t, c, 0, 3, api.Got{At: 5})
	put(t, c, 0, 3)
	take(t, c, 0, api.SlotPending, api.Got{})
	fill(t, c, 0, 3, api.Got{At: 6})
	put(t, c, 0, math.MaxInt)
	noFill(t, c, 0, 3)
	fill(t, c, 0, math.MaxInt, api.Got{At: 7})
	take(t, c, 0, api.SlotFull, api.Got{At: 7})
	put(t, c, 0, 1)
	take(t, c, 0, api.SlotPending, api.Got{})
	// One caller may be waited for in several slots.
	put(t, c, 1, 1)
	fill(t, c, 1, 1, api.Got{At: 8})
	fill(t, c, 0, 1, api.Got{At: 9})
	take(t, c, 1, api.SlotFull, api.Got{At: 8})
	take(t, c, 0, api.SlotFull, api.Got{At: 9})
}

// TestPutWrong: no slot ahead of no caller, and nothing is changed (21.3).
func TestPutWrong(t *testing.T) {
	c := busy(t)
	was := see(c)
	for _, slot := range noSlots {
		for _, caller := range []int{math.MinInt, -1, 0, 1, 8, math.MaxInt} {
			if err := c.Put(slot, caller); err != api.ErrSlot {
				t.Fatalf("Put(%d, %d): %d", slot, caller, err)
			}
		}
	}
	// An empty one, a pending one, a full one, and the edges.
	for _, slot := range []int{0, 1, 3, 4, 15} {
		for _, caller := range []int{math.MinInt, -8, -1, 0} {
			if err := c.Put(slot, caller); err != api.ErrArg {
				t.Fatalf("Put(%d, %d): %d", slot, caller, err)
			}
		}
	}
	still(t, c, was)
	put(t, c, 0, 1)
	put(t, c, 15, 1)
}

// TestFillWrong: of no slot, of an empty one, of one that is pending for another caller, and of a full one (21.3).
func TestFillWrong(t *testing.T) {
	c := busy(t)
	odd := []int{math.MinInt, -8, -7, -1, 0, 1, 7, 9, math.MaxInt}
	for _, caller := range odd {
		for _, slot := range noSlots {
			noFill(t, c, slot, caller)
		}
		noFill(t, c, 0, caller)
		noFill(t, c, 15, caller)
		noFill(t, c, 3, caller)
		noFill(t, c, 4, caller)
	}
	noFill(t, c, 0, 8)
	noFill(t, c, 4, 8)
	fill(t, c, 3, 8, api.Got{At: 1})
	noFill(t, c, 3, 8)
	noFill(t, c, 3, 0)
	take(t, c, 3, api.SlotFull, api.Got{At: 1})
	noFill(t, c, 3, 8)
	noFill(t, c, 3, 0)
}

// TestFillAny: a slot is full with whatever it is filled with, the zero value too (21.3).
func TestFillAny(t *testing.T) {
	c := fresh(t)
	for _, g := range []api.Got{
		{}, {Place: -1, How: 99, Outcome: wrongOutcomes[0], At: -1}, {Place: math.MinInt, How: math.MaxInt, Outcome: api.Outcome{Value: math.MinInt64, Fail: api.Fail{Kind: 9, Code: 8, Run: 7}}, At: math.MaxInt64}, {How: 6, Outcome: api.Outcome{Fail: api.Fail{Kind: 3}}, At: 5},
	} {
		put(t, c, 5, 2)
		fill(t, c, 5, 2, g)
		noFill(t, c, 5, 2)
		take(t, c, 5, api.SlotFull, g)
		take(t, c, 5, api.SlotEmpty, api.Got{})
	}
	if len(c.Log()) != 0 {
		t.Fatalf("Log: %v", c.Log())
	}
}

// TestTakeWrong: no slot, and nothing is changed (21.3).
func TestTakeWrong(t *testing.T) {
	c := busy(t)
	was := see(c)
	for _, slot := range noSlots {
		if g, what, err := c.Take(slot); g != (api.Got{}) || what != 0 || err != api.ErrSlot {
			t.Fatalf("Take(%d): %v, %d, %d", slot, g, what, err)
		}
	}
	still(t, c, was)
}
