package shard_test

import (
	"slices"
	"testing"

	"convoy/api"
	"convoy/group"
	"convoy/memo"
	"convoy/shard"
)

// plain is shards as the document tells them: groups that are searched for who waits and for runs' numbers, a time and a list of cancelled tokens.
type plain struct {
	groups []*group.Group
	now    int64
	gone   []int
}

func newPlain(t *testing.T, n int, c api.Config) *plain {
	t.Helper()
	p := &plain{}
	for range n {
		p.groups = append(p.groups, freshGroup(t, c))
	}
	return p
}

func (p *plain) takes(now int64) api.Errno {
	if now < 0 || now > last {
		return api.ErrTick
	}
	if now < p.now {
		return api.ErrBack
	}
	return api.OK
}

// number is a run's number: there are as many below it as there are rows of n ahead of it, and places ahead of its own in its row.
func (p *plain) number(place, own int) int {
	number := place + 1
	for range own - 1 {
		number += len(p.groups)
	}
	return number
}

func (p *plain) numbers(place int, runs []int) []int {
	l := []int{}
	for _, own := range runs {
		l = append(l, p.number(place, own))
	}
	return l
}

// waits is the place of the group in which a caller waits, -1 if it waits in none.
func (p *plain) waits(caller int) int {
	for place, g := range p.groups {
		for _, run := range g.Progress() {
			if slices.Contains(g.Waiters(run), caller) {
				return place
			}
		}
	}
	return -1
}

func (p *plain) join(now int64, k api.Key, caller, token int) (api.Joined, api.Errno) {
	if err := p.takes(now); err != api.OK {
		return api.Joined{}, err
	}
	switch {
	case len(k.Name) > 64:
		return api.Joined{}, api.ErrKey
	case caller <= 0 || token <= -1:
		return api.Joined{}, api.ErrArg
	case slices.Contains(p.gone, token):
		return api.Joined{}, api.ErrGone
	case p.waits(caller) >= 0:
		return api.Joined{}, api.ErrWaits
	}
	p.now = now
	place := placeOf(k, len(p.groups))
	j, err := p.groups[place].Join(now, k, caller, token)
	if j.Run > 0 {
		j.Run = p.number(place, j.Run)
	}
	j.Sent = p.numbers(place, j.Sent)
	return j, err
}

func (p *plain) leave(now int64, caller int) (api.Left, api.Errno) {
	if err := p.takes(now); err != api.OK {
		return api.Left{}, err
	}
	place := p.waits(caller)
	if place < 0 {
		return api.Left{}, api.ErrNone
	}
	p.now = now
	l, err := p.groups[place].Leave(now, caller)
	l.Run = p.number(place, l.Run)
	return l, err
}

func (p *plain) cancel(now int64, token int) ([]api.Left, api.Errno) {
	if err := p.takes(now); err != api.OK {
		return nil, err
	}
	if token <= 0 {
		return nil, api.ErrArg
	}
	p.now, p.gone = now, append(slices.Clone(p.gone), token)
	var all []api.Left
	for place, g := range p.groups {
		lefts, _ := g.Cancel(now, token)
		for _, l := range lefts {
			l.Run = p.number(place, l.Run)
			all = append(all, l)
		}
	}
	return all, api.OK
}

func (p *plain) forget(now int64, k api.Key) (api.Forgot, api.Errno) {
	if err := p.takes(now); err != api.OK {
		return api.Forgot{}, err
	}
	if len(k.Name) > 64 {
		return api.Forgot{}, api.ErrKey
	}
	p.now = now
	place := placeOf(k, len(p.groups))
	f, err := p.groups[place].Forget(now, k)
	if f.Run > 0 {
		f.Run = p.number(place, f.Run)
	}
	return f, err
}

func (p *plain) end(now int64, run int, o api.Outcome) (api.Done, api.Errno) {
	if err := p.takes(now); err != api.OK {
		return api.Done{}, err
	}
	for place, g := range p.groups {
		for _, own := range g.Progress() {
			if p.number(place, own) != run {
				continue
			}
			d, err := g.End(now, own, o)
			if err != api.OK {
				return d, err
			}
			p.now = now
			d.Run.Run, d.Left = run, p.numbers(place, d.Left)
			return d, api.OK
		}
	}
	return api.Done{}, api.ErrRun
}

func (p *plain) send(now int64) ([][]int, api.Errno) {
	if err := p.takes(now); err != api.OK {
		return nil, err
	}
	p.now = now
	var all [][]int
	for place, g := range p.groups {
		if sent, _ := g.Send(now); len(sent) > 0 {
			all = append(all, p.numbers(place, sent))
		}
	}
	return all, api.OK
}

func (p *plain) next() int64 {
	least := int64(-1)
	for _, g := range p.groups {
		if due, gathers := g.Next(); gathers && (least < 0 || due < least) {
			least = due
		}
	}
	return least
}

func (p *plain) loads() (loads, progress []int, entries int) {
	for place, g := range p.groups {
		loads = append(loads, len(g.Progress()))
		progress = append(progress, p.numbers(place, g.Progress())...)
		entries += len(g.Entries())
	}
	slices.Sort(progress)
	return loads, progress, entries
}

func (p *plain) resize(t *testing.T, now int64, n int) (*plain, []api.Key, api.Errno) {
	t.Helper()
	if err := p.takes(now); err != api.OK {
		return nil, nil, err
	}
	if n <= 0 || n >= 65 {
		return nil, nil, api.ErrArg
	}
	if _, progress, _ := p.loads(); len(progress) != 0 {
		return nil, nil, api.ErrMoving
	}
	c := p.groups[0].Config()
	other, gone := &plain{now: now}, []api.Key{}
	for place := range n {
		var l []api.Kept
		for _, g := range p.groups {
			for _, e := range g.Entries() {
				if placeOf(e.Key, n) == place {
					l = append(l, e)
				}
			}
		}
		for len(l) > c.Entries {
			gone, l = append(gone, l[0].Key), l[1:]
		}
		m, _, err := memo.Of(c, now, l)
		if err != api.OK {
			t.Fatalf("memo.Of(%+v, %d, %v): %d", c, now, l, err)
		}
		g, _ := group.From(m)
		other.groups = append(other.groups, g)
	}
	return other, gone, api.OK
}

func (p *plain) clone() *plain {
	twin := &plain{now: p.now, gone: slices.Clone(p.gone)}
	for _, g := range p.groups {
		twin.groups = append(twin.groups, g.Clone())
	}
	return twin
}

// same holds all that can be asked of shards against plain ones, but for the seats.
func same(t *testing.T, s *shard.Shards, p *plain) {
	t.Helper()
	loads, progress, entries := p.loads()
	stands(t, s, entries, loads, progress)
	next(t, s, p.next())
	if s.Len() != len(p.groups) {
		t.Fatalf("Len: %d, not %d", s.Len(), len(p.groups))
	}
	for place, g := range p.groups {
		if got, want := say(s.Group(place)), say(g); got != want {
			t.Fatalf("the group %d: %s, not %s", place, got, want)
		}
	}
}

// sameSeats holds the time, and who sits where, against plain ones.
func sameSeats(t *testing.T, s *shard.Shards, p *plain) {
	t.Helper()
	if got := timeOf(s); got != p.now {
		t.Fatalf("the time: %d, not %d", got, p.now)
	}
	for place, g := range p.groups {
		if got, want := saySeats(s.Group(place)), saySeats(g); got != want {
			t.Fatalf("the seats of the group %d: %s, not %s", place, got, want)
		}
	}
}
