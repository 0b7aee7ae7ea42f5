package world

import "convoy/api"

// stepClient lets a client do its next thing; if it can go on behind that, it is ready again.
func (w *World) stepClient(n int) {
	m := w.clients[n]
	do, place, _ := m.Next()
	m.place = place
	m.Go()
	switch do.Op {
	case api.DoCall:
		w.ask(do.Key, asker{client: n, slot: noSlot})
	case api.DoStart:
		w.ask(do.Key, asker{client: n, slot: do.Slot})
	case api.DoAwait:
		w.await(m, do.Slot)
	case api.DoForget:
		w.forget(n, do.Key)
	case api.DoCancel:
		w.cancel(int(do.N))
	case api.DoOpen:
		w.open(int(do.N))
	case api.DoShut:
		w.gates.Shut(int(do.N))
	case api.DoSleep:
		// There are always fewer who sleep than there may be timers.
		timer, _ := w.clock.In(do.N)
		w.sleep(n, timer)
		m.sleeps = true
	case api.DoToken:
		m.Use(int(do.N))
	}
	if m.waits == 0 && !m.sleeps {
		w.rouse(n)
	}
}

// await lets a client have what is in a slot, or wait for it.
func (w *World) await(m *member, slot int) {
	got, is, _ := m.Take(slot)
	switch is {
	case api.SlotEmpty:
		m.has(api.Got{At: w.Now()})
	case api.SlotFull:
		m.has(got)
	case api.SlotPending:
		m.waits = m.starts[slot]
	}
}

// forget lets a client forget a key.
func (w *World) forget(n int, k api.Key) {
	forgot, err := w.group.Forget(w.Now(), k)
	if err != api.OK {
		// Who has the group may have let its time go on beyond the clock's.
		return
	}
	w.happens(api.Event{Kind: api.EventForget, Client: n + 1, Key: k, Generation: forgot.Generation})
	if forgot.Kept {
		w.happens(api.Event{Kind: api.EventDrop, Key: k})
	}
	if forgot.Cancelled {
		w.cancelRun(forgot.Run)
	}
}

// cancel cancels a token: all who wait by it leave.
func (w *World) cancel(token int) {
	lefts, _ := w.group.Cancel(w.Now(), token)
	for _, left := range lefts {
		w.leave(left)
	}
}

// leave tells a caller that it left, and what becomes of its run by that.
func (w *World) leave(left api.Left) {
	run, _ := w.group.Run(left.Run)
	w.happens(api.Event{
		Kind:    api.EventLeave,
		Client:  w.clientOf(left.Caller),
		Caller:  left.Caller,
		Run:     left.Run,
		Key:     run.Key,
		Outcome: left.Outcome,
	})
	w.tell(left.Caller, api.HowCancel, left.Outcome)
	if left.Cancelled {
		w.cancelRun(left.Run)
	}
	if left.Abandoned {
		w.abandon(left.Run)
	}
}

// open opens a gate: all loads that waited there go on.
func (w *World) open(gate int) {
	through, _ := w.gates.Open(gate)
	for _, task := range through {
		w.wake(task)
	}
}
