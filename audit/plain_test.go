package audit_test

import (
	"math/big"
	"slices"

	"convoy/api"
)

// plain is what was ahead of an event; what is asked of it is looked for anew each time, from the last event back.
type plain []api.Event

// last is the last event of which is holds.
func (p plain) last(is func(e api.Event) bool) (api.Event, bool) {
	for n := len(p) - 1; n >= 0; n-- {
		if is(p[n]) {
			return p[n], true
		}
	}
	return api.Event{}, false
}

func (p plain) any(is func(e api.Event) bool) bool {
	_, found := p.last(is)
	return found
}

func (p plain) inProgress(run int) bool {
	e, found := p.last(func(e api.Event) bool { return e.Run == run && (e.Kind == 2 || e.Kind == 5) })
	return found && e.Kind == 2
}

// progress is the last Begin of each run in progress.
func (p plain) progress() []api.Event {
	var l []api.Event
	seen := map[int]bool{}
	for _, e := range slices.Backward(p) {
		if e.Kind != 2 || seen[e.Run] {
			continue
		}
		seen[e.Run] = true
		if p.inProgress(e.Run) {
			l = append(l, e)
		}
	}
	return l
}

func (p plain) waits(run, caller int) bool {
	e, found := p.last(func(e api.Event) bool {
		return e.Run == run && e.Caller == caller && (e.Kind == 4 || e.Kind == 11 || e.Kind == 1 && (e.How == 3 || e.How == 5))
	})
	return found && e.Kind == 1
}

func (p plain) hasWaiters(run int) bool {
	return p.any(func(e api.Event) bool { return e.Run == run && p.waits(run, e.Caller) })
}

func (p plain) cancelled(run int) bool {
	return p.any(func(e api.Event) bool { return e.Kind == 6 && e.Run == run })
}

func (p plain) generation(k api.Key) int {
	e, _ := p.last(func(e api.Event) bool { return e.Key == k && (e.Kind == 7 || e.Kind == 8) })
	return e.Generation
}

func (p plain) entry(k api.Key) (api.Event, bool) {
	e, found := p.last(func(e api.Event) bool { return e.Key == k && (e.Kind == 9 || e.Kind == 10) })
	return e, found && e.Kind == 9
}

// entries is how many keys have one.
func (p plain) entries() int {
	seen := map[api.Key]bool{}
	for _, e := range p {
		if _, has := p.entry(e.Key); has {
			seen[e.Key] = true
		}
	}
	return len(seen)
}

// byHand is, of each call in the order of All, whether an event breaks it behind what was ahead, with those that come behind it.
var byHand = []func(p plain, e api.Event, behind []api.Event, c api.Config) bool{
	func(p plain, e api.Event, _ []api.Event, _ api.Config) bool {
		return e.Kind == 2 && (p.any(func(x api.Event) bool { return x.Kind == 2 && x.Run >= e.Run }) || slices.ContainsFunc(p.progress(), func(x api.Event) bool {
			return x.Run != e.Run && x.Key == e.Key && x.Generation == e.Generation
		}))
	},
	func(p plain, e api.Event, _ []api.Event, _ api.Config) bool {
		return e.Kind == 2 && e.Generation != p.generation(e.Key) || (e.Kind == 7 || e.Kind == 8) && e.Generation != p.generation(e.Key)+1
	},
	func(p plain, e api.Event, _ []api.Event, _ api.Config) bool {
		end, ended := p.last(func(x api.Event) bool { return x.Kind == 5 && x.Run == e.Run })
		gone := p.any(func(x api.Event) bool { return (x.Kind == 4 || x.Kind == 11) && x.Caller == e.Caller })
		return e.Kind == 4 && (!ended || end.Outcome != e.Outcome || gone) || e.Kind == 11 && !p.waits(e.Run, e.Caller)
	},
	func(p plain, e api.Event, _ []api.Event, _ api.Config) bool {
		switch {
		case e.Kind == 6:
			return !p.inProgress(e.Run) || p.hasWaiters(e.Run) || p.cancelled(e.Run)
		case e.Kind == 1 && e.How == 3:
			return !p.inProgress(e.Run) || p.cancelled(e.Run)
		}
		return false
	},
	func(p plain, e api.Event, _ []api.Event, c api.Config) bool {
		return e.Kind == 2 && len(append(slices.Clone(p), e).progress()) > c.Flight || e.Kind == 1 && e.How == 4 && len(p.progress()) != c.Flight
	},
	func(p plain, e api.Event, behind []api.Event, c api.Config) bool {
		_, has := p.entry(e.Key)
		return e.Kind == 9 && !has && p.entries()+1 > c.Entries && (len(behind) == 0 || behind[0].Kind != 10) || e.Kind == 10 && !has
	},
	func(p plain, e api.Event, _ []api.Event, c api.Config) bool {
		if e.Kind != 1 || e.How != 1 && e.How != 2 {
			return false
		}
		entry, has := p.entry(e.Key)
		if !has || entry.Outcome != e.Outcome {
			return true
		}
		fails := entry.Outcome.Fail.Kind != 0
		switch {
		case e.How == 1 && fails:
			return !withinByHand(e.At, entry.At, c.Negative)
		case e.How == 1:
			return !withinByHand(e.At, entry.At, c.TTL)
		}
		return fails || withinByHand(e.At, entry.At, c.TTL) || !withinByHand(e.At, entry.At, c.TTL, c.Stale)
	},
	func(p plain, e api.Event, _ []api.Event, c api.Config) bool {
		entry, has := p.entry(e.Key)
		return e.Kind == 2 && has && entry.Outcome.Fail.Kind == 0 && withinByHand(e.At, entry.At, c.TTL)
	},
	func(p plain, e api.Event, _ []api.Event, _ api.Config) bool {
		return !isTickByHand(e.At) || len(p) > 0 && p[len(p)-1].At > e.At
	},
}

func isTickByHand(at int64) bool { return at >= 0 && at <= last }

// withinByHand is whether a tick is less than some times ahead of now, without any bound; it is not, where one is none.
func withinByHand(now, at int64, times ...int64) bool {
	if !isTickByHand(now) || !isTickByHand(at) || now < at {
		return false
	}
	sum := new(big.Int)
	for _, d := range times {
		if d < 0 {
			return false
		}
		sum.Add(sum, big.NewInt(d))
	}
	return big.NewInt(now-at).Cmp(sum) < 0
}

// firstByHand is the place of the first event that breaks a call, -1 if there is none.
func firstByHand(which int, l []api.Event, c api.Config) int {
	for n, e := range l {
		if byHand[which](plain(l[:n]), e, l[n+1:], c) {
			return n
		}
	}
	return -1
}
