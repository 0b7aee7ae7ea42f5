package group

import "convoy/api"

// Leave lets a caller wait no more, and tells what becomes of its run by that (16.3).
func (g *Group) Leave(now int64, caller int) (api.Left, api.Errno) {
	if err := g.checkTick(now); err != api.OK {
		return api.Left{}, err
	}
	seat, waits := g.seats.Stand(caller)
	if !waits {
		return api.Left{}, api.ErrNone
	}
	g.now = now
	return g.left(seat), api.OK
}

// Cancel cancels a token, and lets all who wait by it leave, in the order in which they joined (16.3).
func (g *Group) Cancel(now int64, token int) ([]api.Left, api.Errno) {
	if err := g.checkTick(now); err != api.OK {
		return nil, err
	}
	if token < 1 {
		return nil, api.ErrArg
	}
	g.now = now
	var all []api.Left
	for _, seat := range g.seats.Cancel(token) {
		all = append(all, g.left(seat))
	}
	return all, api.OK
}

// left lets a caller whose seat is gone leave its run, too.
func (g *Group) left(seat api.Seat) api.Left {
	gone, _ := g.runs.Leave(seat.Run, seat.Caller)
	return api.Left{
		Caller:    seat.Caller,
		Run:       seat.Run,
		Cancelled: gone.Cancelled,
		Abandoned: gone.Abandoned,
		Outcome:   api.Outcome{Fail: api.Fail{Kind: api.FailCancel}},
	}
}

// Forget lets the entry of a key go, and its generation go on (16.4).
func (g *Group) Forget(now int64, k api.Key) (api.Forgot, api.Errno) {
	if err := g.checkTick(now); err != api.OK {
		return api.Forgot{}, err
	}
	generation, run, err := g.runs.Forget(k)
	if err != api.OK {
		return api.Forgot{}, err
	}
	g.now = now
	// Released behind that, when it is current no more: a refresh that is left by this is not abandoned, or the generation would go on twice.
	gone, _ := g.runs.Release(run)
	return api.Forgot{Kept: g.kept.Drop(k), Generation: generation, Run: run, Cancelled: gone.Cancelled}, api.OK
}
