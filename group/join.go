package group

import (
	"convoy/api"
	"convoy/key"
)

// Join lets a caller ask for a key: it has an outcome at once, or waits for a run, which may be begun by that (16.2).
func (g *Group) Join(now int64, k api.Key, caller, token int) (api.Joined, api.Errno) {
	if err := g.mayJoin(now, k, caller, token); err != api.OK {
		return api.Joined{}, err
	}
	g.now = now
	if told, has := g.tell(k); has {
		return told, api.OK
	}
	return g.wait(k, caller, token), api.OK
}

// mayJoin tells whether a caller may ask for a key.
func (g *Group) mayJoin(now int64, k api.Key, caller, token int) api.Errno {
	if err := g.checkTick(now); err != api.OK {
		return err
	}
	if err := key.Check(k); err != api.OK {
		return err
	}
	if caller < 1 || token < 0 {
		return api.ErrArg
	}
	if g.seats.Cancelled(token) {
		return api.ErrGone
	}
	if _, waits := g.seats.Where(caller); waits {
		return api.ErrWaits
	}
	return api.OK
}

// tell answers a hit or a stale one, if the entry of a key is one at the group's time.
func (g *Group) tell(k api.Key) (api.Joined, bool) {
	// Looked at ahead of being told: a stale one that is not told, as too many runs are in progress, is not used.
	seen, _ := g.kept.Look(g.now, k)
	told, does := g.meet(k, seen.How)
	if !does {
		return api.Joined{}, false
	}
	g.kept.Tell(g.now, k)
	told.Outcome = seen.Outcome
	return told, true
}

// meet answers what a caller meets by an entry of a key that is so, without its outcome.
func (g *Group) meet(k api.Key, how int) (api.Joined, bool) {
	switch how {
	case api.SeenFresh:
		return api.Joined{How: api.HowHit}, true
	case api.SeenStale:
		return g.renew(k)
	}
	return api.Joined{}, false
}

// renew answers a stale one without its outcome: with the current run of a key, or a refresh that is begun; none, if too many runs are in progress.
func (g *Group) renew(k api.Key) (api.Joined, bool) {
	if run, has := g.runs.Current(k); has {
		return api.Joined{How: api.HowStale, Run: run}, true
	}
	run, err := g.runs.Begin(k, 0, true)
	if err != api.OK {
		return api.Joined{}, false
	}
	return g.begun(api.HowStale, run), true
}

// wait lets a caller wait for the current run of a key, or for one that is begun; of neither it is busy.
func (g *Group) wait(k api.Key, caller, token int) api.Joined {
	if run, has := g.runs.Current(k); has {
		g.runs.Join(run, caller)
		g.sit(caller, run, token)
		return api.Joined{How: api.HowJoined, Run: run}
	}
	run, err := g.runs.Begin(k, caller, false)
	if err != api.OK {
		return api.Joined{How: api.HowBusy, Outcome: api.Outcome{Fail: api.Fail{Kind: api.FailBusy}}}
	}
	g.sit(caller, run, token)
	return g.begun(api.HowLed, run)
}

// sit gives a caller that may join its seat.
func (g *Group) sit(caller, run, token int) {
	g.seats.Sit(api.Seat{Caller: caller, Run: run, Token: token})
}

// begun lets a run that was begun just now gather, and answers it with what is sent by that.
func (g *Group) begun(how, run int) api.Joined {
	// The run is above all others, and the tick not below one that the batch knows: there is no error.
	sent, _ := g.gathered.Add(g.now, run)
	return api.Joined{How: how, Run: run, Begun: true, Sent: sent}
}
