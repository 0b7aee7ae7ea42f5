package group_test

import (
	"maps"
	"slices"

	"convoy/api"
)

// plainRun is a run in progress as the document tells it.
type plainRun struct {
	api.Run
	waiters   []int
	counts    bool // the entry of a refresh, as one that waits
	cancelled bool
}

// plain is a group as the document tells it: lists that are searched, and what is left looked for behind each step.
type plain struct {
	config      api.Config
	now         int64
	begun       int
	runs        []plainRun
	generations map[api.Key]int
	entries     []api.Kept // the one that was used the longest time ago first
	gathers     []int
	due         int64
	seats       []api.Seat
	gone        []int // tokens
}

func newPlain(c api.Config) *plain { return &plain{config: c, generations: map[api.Key]int{}} }

func (p *plain) takes(now int64) api.Errno {
	if now < 0 || now > last {
		return api.ErrTick
	}
	if now < p.now {
		return api.ErrBack
	}
	return api.OK
}

func (p *plain) place(run int) int {
	return slices.IndexFunc(p.runs, func(r plainRun) bool { return r.Run.Run == run })
}

func (p *plain) entry(k api.Key) int {
	return slices.IndexFunc(p.entries, func(e api.Kept) bool { return e.Key == k })
}

func (p *plain) seat(caller int) int {
	return slices.IndexFunc(p.seats, func(s api.Seat) bool { return s.Caller == caller })
}

func (p *plain) current(r plainRun) bool { return r.Generation == p.generations[r.Key] }

// currentOf is the place of the current run of a key, -1 if there is none.
func (p *plain) currentOf(k api.Key) int {
	return slices.IndexFunc(p.runs, func(r plainRun) bool { return r.Key == k && p.current(r) })
}

// left is what becomes of runs that nobody waits for any more: those that are cancelled, and those of them that are abandoned.
func (p *plain) left() (cancelled, abandoned []int) {
	for i := range p.runs {
		r := &p.runs[i]
		if len(r.waiters) > 0 || r.counts || r.cancelled {
			continue
		}
		r.cancelled = true
		cancelled = append(cancelled, r.Run.Run)
		if p.current(*r) {
			p.generations[r.Key]++
			abandoned = append(abandoned, r.Run.Run)
		}
	}
	return cancelled, abandoned
}

// begin begins a run, of a refresh without a caller, and answers it and what is sent by that.
func (p *plain) begin(k api.Key, caller int) (int, []int) {
	p.begun++
	r := plainRun{Run: api.Run{Run: p.begun, Key: k, Generation: p.generations[k], Refresh: caller == 0}, counts: caller == 0}
	if caller != 0 {
		r.waiters = []int{caller}
	}
	p.runs = append(slices.Clone(p.runs), r)
	if len(p.gathers) == 0 {
		p.due = last
		if p.config.Window < last-p.now {
			p.due = p.now + p.config.Window
		}
	}
	p.gathers = append(slices.Clone(p.gathers), p.begun)
	if p.config.Window == 0 || len(p.gathers) == p.config.Batch {
		return p.begun, p.flush()
	}
	return p.begun, nil
}

func (p *plain) flush() []int {
	sent := p.gathers
	p.gathers, p.due = nil, 0
	return sent
}

// how is how the entry in a place is now: 1 fresh, 2 stale, 3 neither.
func (p *plain) how(place int) int {
	e := p.entries[place]
	age, isValue := p.now-e.At, e.Outcome.Fail == api.Fail{}
	switch {
	case isValue && age < p.config.TTL, !isValue && age < p.config.Negative:
		return 1
	case isValue && age-p.config.TTL < p.config.Stale:
		return 2
	}
	return 3
}

// use lets the entry in a place be the one that was used last.
func (p *plain) use(place int) api.Outcome {
	e := p.entries[place]
	p.entries = append(slices.Delete(slices.Clone(p.entries), place, place+1), e)
	return e.Outcome
}

func (p *plain) mayJoin(now int64, k api.Key, caller, token int) api.Errno {
	if err := p.takes(now); err != api.OK {
		return err
	}
	switch {
	case len(k.Name) > 64:
		return api.ErrKey
	case caller <= 0 || token <= -1:
		return api.ErrArg
	case slices.Contains(p.gone, token):
		return api.ErrGone
	case p.seat(caller) >= 0:
		return api.ErrWaits
	}
	return api.OK
}

func (p *plain) join(now int64, k api.Key, caller, token int) (api.Joined, api.Errno) {
	if err := p.mayJoin(now, k, caller, token); err != api.OK {
		return api.Joined{}, err
	}
	p.now = now
	e, current, full := p.entry(k), p.currentOf(k), len(p.runs) == p.config.Flight
	if e >= 0 && p.how(e) == 1 {
		return hit(p.use(e)), api.OK
	}
	if e >= 0 && p.how(e) == 2 && (current >= 0 || !full) {
		o := p.use(e)
		if current >= 0 {
			return stale(p.runs[current].Run.Run, o), api.OK
		}
		run, sent := p.begin(k, 0)
		return staleLed(run, o, sent...), api.OK
	}
	if current >= 0 {
		r := &p.runs[current]
		r.waiters = append(slices.Clone(r.waiters), caller)
		p.seats = append(slices.Clone(p.seats), api.Seat{Caller: caller, Run: r.Run.Run, Token: token})
		return joined(r.Run.Run), api.OK
	}
	if full {
		return busy(), api.OK
	}
	run, sent := p.begin(k, caller)
	p.seats = append(slices.Clone(p.seats), api.Seat{Caller: caller, Run: run, Token: token})
	return led(run, sent...), api.OK
}

// stand lets who has the seat in a place leave.
func (p *plain) stand(place int) api.Left {
	s := p.seats[place]
	p.seats = slices.Delete(slices.Clone(p.seats), place, place+1)
	r := &p.runs[p.place(s.Run)]
	r.waiters = slices.DeleteFunc(slices.Clone(r.waiters), func(w int) bool { return w == s.Caller })
	cancelled, abandoned := p.left()
	return api.Left{Caller: s.Caller, Run: s.Run, Cancelled: len(cancelled) > 0, Abandoned: len(abandoned) > 0, Outcome: cancelOutcome}
}

func (p *plain) leave(now int64, caller int) (api.Left, api.Errno) {
	if err := p.takes(now); err != api.OK {
		return api.Left{}, err
	}
	place := p.seat(caller)
	if place < 0 {
		return api.Left{}, api.ErrNone
	}
	p.now = now
	return p.stand(place), api.OK
}

func (p *plain) cancel(now int64, token int) ([]api.Left, api.Errno) {
	if err := p.takes(now); err != api.OK {
		return nil, err
	}
	if token <= 0 {
		return nil, api.ErrArg
	}
	p.now, p.gone = now, append(slices.Clone(p.gone), token)
	var all []api.Left
	for {
		place := slices.IndexFunc(p.seats, func(s api.Seat) bool { return s.Token == token })
		if place < 0 {
			return all, api.OK
		}
		all = append(all, p.stand(place))
	}
}

// drop lets the entry of a key go, if there is one: it counts for the current run no more.
func (p *plain) drop(k api.Key) bool {
	place, current := p.entry(k), p.currentOf(k)
	if place < 0 {
		return false
	}
	p.entries = slices.Delete(slices.Clone(p.entries), place, place+1)
	if current >= 0 {
		p.runs[current].counts = false
	}
	return true
}

func (p *plain) forget(now int64, k api.Key) (api.Forgot, api.Errno) {
	if err := p.takes(now); err != api.OK {
		return api.Forgot{}, err
	}
	if len(k.Name) > 64 {
		return api.Forgot{}, api.ErrKey
	}
	p.now = now
	f := api.Forgot{}
	if current := p.currentOf(k); current >= 0 {
		f.Run = p.runs[current].Run.Run
	}
	f.Kept = p.drop(k)
	p.generations[k]++
	f.Generation = p.generations[k]
	cancelled, _ := p.left()
	f.Cancelled = len(cancelled) > 0
	return f, api.OK
}

// keeps is whether what a current run ends with is kept.
func (p *plain) keeps(refresh bool, o api.Outcome) bool {
	switch {
	case p.config.Entries == 0:
		return false
	case o.Fail == api.Fail{}:
		return p.config.TTL > 0
	}
	return !refresh && p.config.Negative > 0 && (o.Fail.Kind == api.FailLoad || o.Fail.Kind == api.FailPanic)
}

func (p *plain) end(now int64, run int, o api.Outcome) (api.Done, api.Errno) {
	if err := p.takes(now); err != api.OK {
		return api.Done{}, err
	}
	place := p.place(run)
	if place < 0 {
		return api.Done{}, api.ErrRun
	}
	if slices.Contains(noOutcomes, o) {
		return api.Done{}, api.ErrFail
	}
	p.now = now
	r := p.runs[place]
	d := api.Done{Run: r.Run, Told: told(o, r.waiters...), Current: p.current(r)}
	p.runs = slices.Delete(slices.Clone(p.runs), place, place+1)
	p.seats = slices.DeleteFunc(slices.Clone(p.seats), func(s api.Seat) bool { return s.Run == run })
	d.Kept = d.Current && p.keeps(r.Refresh, o)
	if d.Kept {
		p.drop(r.Key)
		p.entries = append(slices.Clone(p.entries), kept(r.Key, o, now))
		for len(p.entries) > p.config.Entries {
			d.Gone = append(d.Gone, p.entries[0].Key)
			p.drop(p.entries[0].Key)
		}
		d.Left, _ = p.left()
	}
	return d, api.OK
}

func (p *plain) send(now int64) ([]int, api.Errno) {
	if err := p.takes(now); err != api.OK {
		return nil, err
	}
	p.now = now
	if len(p.gathers) > 0 && now >= p.due {
		return p.flush(), api.OK
	}
	return nil, api.OK
}

func (p *plain) clone() *plain {
	twin := *p
	twin.runs, twin.generations, twin.entries = slices.Clone(p.runs), maps.Clone(p.generations), slices.Clone(p.entries)
	twin.gathers, twin.seats, twin.gone = slices.Clone(p.gathers), slices.Clone(p.seats), slices.Clone(p.gone)
	return &twin
}

// state is what a group should say of itself that is like a plain one.
func (p *plain) state() state {
	s := state{config: p.config, now: p.now, generations: p.generations, entries: p.entries, gathers: p.gathers, due: p.due}
	for _, r := range p.runs {
		s.runs = append(s.runs, one{run: r.Run, waiters: r.waiters, counts: r.counts, cancelled: r.cancelled, current: p.current(r)})
	}
	return s
}
