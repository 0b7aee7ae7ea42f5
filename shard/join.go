package shard

import (
	"convoy/api"
	"convoy/key"
)

// Join lets a caller ask for a key in the group of its place (18.1).
func (s *Shards) Join(now int64, k api.Key, caller, token int) (api.Joined, api.Errno) {
	if err := s.mayJoin(now, k, caller, token); err != api.OK {
		return api.Joined{}, err
	}
	s.now = now
	place := s.Place(k)
	// All that a group could refuse was looked at: there is no error.
	met, _ := s.groups[place].Join(now, k, caller, token)
	if met.How == api.HowJoined || met.How == api.HowLed {
		s.waits[caller] = place
	}
	met.Run, met.Sent = s.number(place, met.Run), s.numbers(place, met.Sent)
	return met, api.OK
}

// mayJoin tells whether a caller may ask for a key, by what all groups have together.
func (s *Shards) mayJoin(now int64, k api.Key, caller, token int) api.Errno {
	if err := s.checkTick(now); err != api.OK {
		return err
	}
	if err := key.Check(k); err != api.OK {
		return err
	}
	if caller < 1 || token < 0 {
		return api.ErrArg
	}
	if _, is := s.cancelled[token]; is {
		return api.ErrGone
	}
	if _, does := s.waits[caller]; does {
		return api.ErrWaits
	}
	return api.OK
}

// Forget lets the entry of a key go, and its generation go on, in the group of its place (18.1).
func (s *Shards) Forget(now int64, k api.Key) (api.Forgot, api.Errno) {
	if err := s.checkTick(now); err != api.OK {
		return api.Forgot{}, err
	}
	place := s.Place(k)
	forgot, err := s.groups[place].Forget(now, k)
	if err != api.OK {
		return api.Forgot{}, err
	}
	s.now = now
	forgot.Run = s.number(place, forgot.Run)
	return forgot, api.OK
}

// Leave lets a caller wait no more in the group in which it does (18.1).
func (s *Shards) Leave(now int64, caller int) (api.Left, api.Errno) {
	if err := s.checkTick(now); err != api.OK {
		return api.Left{}, err
	}
	place, does := s.waits[caller]
	if !does {
		return api.Left{}, api.ErrNone
	}
	s.now = now
	// It waits there, and the tick was looked at: there is no error.
	left, _ := s.groups[place].Leave(now, caller)
	return s.left(place, left), api.OK
}

// left lets a caller that left its group wait nowhere, and answers that with the run's number.
func (s *Shards) left(place int, left api.Left) api.Left {
	delete(s.waits, left.Caller)
	left.Run = s.number(place, left.Run)
	return left
}

// Cancel cancels a token in each group in turn, and lets all who wait by it leave (18.1).
func (s *Shards) Cancel(now int64, token int) ([]api.Left, api.Errno) {
	if err := s.checkTick(now); err != api.OK {
		return nil, err
	}
	if token < 1 {
		return nil, api.ErrArg
	}
	s.now, s.cancelled[token] = now, struct{}{}
	var all []api.Left
	for place, g := range s.groups {
		// Tick and token were looked at: there is no error.
		lefts, _ := g.Cancel(now, token)
		for _, left := range lefts {
			all = append(all, s.left(place, left))
		}
	}
	return all, api.OK
}

// End ends a run in its group, and tells what came of that (18.1).
func (s *Shards) End(now int64, run int, o api.Outcome) (api.Done, api.Errno) {
	if err := s.checkTick(now); err != api.OK {
		return api.Done{}, err
	}
	if run < 1 {
		return api.Done{}, api.ErrRun
	}
	place, own := s.find(run)
	done, err := s.groups[place].End(now, own, o)
	if err != api.OK {
		return api.Done{}, err
	}
	s.now = now
	for _, told := range done.Told {
		delete(s.waits, told.Caller)
	}
	done.Run.Run, done.Left = run, s.numbers(place, done.Left)
	return done, api.OK
}
