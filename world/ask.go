package world

import "convoy/api"

// asker is who asked as a caller: a client, and how it met what it asked for.
type asker struct {
	client int
	slot   int // into which it is to be told, or noSlot
	how    int
}

// noSlot stands for the log, into which what is called for is told.
const noSlot = -1

// ask lets a caller more ask for a key.
func (w *World) ask(k api.Key, a asker) {
	w.callers++
	caller, m := w.callers, w.clients[a.client]
	if a.slot != noSlot {
		m.Put(a.slot, caller)
		m.starts[a.slot] = caller
	}
	joined := w.join(k, caller, a.client)
	a.how = joined.How
	if joined.How != api.HowJoined && joined.How != api.HowLed {
		w.give(caller, a, a.how, joined.Outcome)
		return
	}
	w.asked[caller] = a
	if a.slot == noSlot {
		m.waits = caller
	}
}

// join lets a caller of a client join, and tells what happens by that.
func (w *World) join(k api.Key, caller, client int) api.Joined {
	joined, err := w.group.Join(w.Now(), k, caller, w.clients[client].Token())
	if err == api.ErrGone {
		joined = api.Joined{How: api.HowCancel, Outcome: api.Outcome{Fail: api.Fail{Kind: api.FailCancel}}}
	}
	if joined.Begun {
		w.begin(joined.Run)
	}
	asks := api.Event{Kind: api.EventJoin, Client: client + 1, Caller: caller, Key: k, How: joined.How, Outcome: joined.Outcome}
	// Who is told what is stale has neither joined nor led the refresh that it is told of.
	if joined.How != api.HowStale {
		asks.Run = joined.Run
	}
	w.happens(asks)
	w.send(joined.Sent)
	w.watch()
	return joined
}

// tell tells a caller who waited; if the client waits for that, it goes on.
func (w *World) tell(caller, how int, o api.Outcome) {
	a, known := w.asked[caller]
	if !known {
		return
	}
	delete(w.asked, caller)
	w.give(caller, a, how, o)
	m := w.clients[a.client]
	if m.waits != caller {
		return
	}
	m.waits = 0
	if a.slot != noSlot {
		got, _, _ := m.Take(a.slot)
		m.has(got)
	}
	w.rouse(a.client)
}

// give lays what a caller is told into the client's log, or into its slot, if that is for this caller still.
func (w *World) give(caller int, a asker, how int, o api.Outcome) {
	m, got := w.clients[a.client], api.Got{How: how, Outcome: o, At: w.Now()}
	if a.slot == noSlot {
		m.has(got)
		return
	}
	m.Fill(a.slot, caller, got)
}

// clientOf is how events name the client of a caller who waits: its place and 1, or 0 of somebody whom no client asked by.
func (w *World) clientOf(caller int) int {
	a, known := w.asked[caller]
	if !known {
		return 0
	}
	return a.client + 1
}
