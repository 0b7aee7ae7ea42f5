package client

import "convoy/api"

// slot is where what was started without waiting is told; its zero value is an empty one.
type slot struct {
	caller int // who is to be told; 0, if nobody is
	full   bool
	got    api.Got
}

func isSlot(n int) bool { return n >= 0 && n < api.MaxSlots }

// Put makes a slot pending for a caller, whatever was there (21.3).
func (c *Client) Put(at, caller int) api.Errno {
	if c == nil {
		return api.ErrArg
	}
	if !isSlot(at) {
		return api.ErrSlot
	}
	if caller < 1 {
		return api.ErrArg
	}
	c.slots[at] = slot{caller: caller}
	return api.OK
}

// Fill fills a slot that is pending for a caller, and tells whether it is (21.3).
func (c *Client) Fill(at, caller int, g api.Got) bool {
	// Callers are asked for, too, as a slot that is pending for nobody has a 0 there.
	if c == nil || !isSlot(at) || caller < 1 || c.slots[at].caller != caller {
		return false
	}
	c.slots[at] = slot{full: true, got: g}
	return true
}

// Take tells what a slot is, and takes out what is in a full one (21.3).
func (c *Client) Take(at int) (api.Got, int, api.Errno) {
	if c == nil {
		return api.Got{}, 0, api.ErrArg
	}
	if !isSlot(at) {
		return api.Got{}, 0, api.ErrSlot
	}
	is := c.slots[at]
	switch {
	case is.full:
		c.slots[at] = slot{}
		return is.got, api.SlotFull, api.OK
	case is.caller > 0:
		return api.Got{}, api.SlotPending, api.OK
	}
	return api.Got{}, api.SlotEmpty, api.OK
}
