package retry

import (
	"convoy/api"
	"convoy/tick"
)

// Breaker lets nobody try for a while when too many tries failed; New makes one.
type Breaker struct {
	fails  int
	cool   int64
	now    int64 // the greatest tick that was told
	state  int
	failed int   // how many tries failed behind one another while it is shut
	until  int64 // of no meaning while it is not open
}

// New answers a breaker that is shut (17.2).
func New(fails int, cool int64) (*Breaker, api.Errno) {
	if fails < 1 || cool < 0 {
		return nil, api.ErrArg
	}
	return &Breaker{fails: fails, cool: cool, state: api.BreakShut}, api.OK
}

// Ask answers whether one may try; of one that is open long enough, the first asking makes it half (17.2).
func (b *Breaker) Ask(now int64) (bool, api.Errno) {
	if err := b.tell(now); err != api.OK {
		return false, err
	}
	if b.state == api.BreakOpen && now >= b.until {
		b.state = api.BreakHalf
		return true, api.OK
	}
	return b.state == api.BreakShut, api.OK
}

// tell lets the breaker know a tick, if that may be.
func (b *Breaker) tell(now int64) api.Errno {
	switch {
	case b == nil:
		return api.ErrArg
	case !tick.Is(now):
		return api.ErrTick
	case now < b.now:
		return api.ErrBack
	}
	b.now = now
	return api.OK
}

// Done tells that a try is done, and whether it went well (17.2).
func (b *Breaker) Done(now int64, fine bool) api.Errno {
	if err := b.tell(now); err != api.OK {
		return err
	}
	if b.state == api.BreakOpen {
		// A try that was let through ahead of the opening says nothing of what comes behind it.
		return api.OK
	}
	if fine {
		b.state, b.failed = api.BreakShut, 0
		return api.OK
	}
	b.failed++
	if b.state == api.BreakHalf || b.failed >= b.fails {
		b.open(now)
	}
	return api.OK
}

// open lets nobody try for so long from a tick on.
func (b *Breaker) open(now int64) {
	b.state, b.failed = api.BreakOpen, 0
	// Of a sum that is too great, After answers MaxTime, which is what is asked for here.
	b.until, _ = tick.After(now, b.cool)
}

// State answers how the breaker is at a tick, any that may be: without an asking, no tick makes an open one half (17.3).
func (b *Breaker) State(now int64) int {
	if b == nil || !tick.Is(now) {
		return 0
	}
	return b.state
}

// Until answers until when it is open (17.3).
func (b *Breaker) Until() (int64, bool) {
	if b == nil || b.state != api.BreakOpen {
		return 0, false
	}
	return b.until, true
}

// Clone answers a breaker of its own that is the same (17.3).
func (b *Breaker) Clone() *Breaker {
	if b == nil {
		return nil
	}
	twin := *b
	return &twin
}
