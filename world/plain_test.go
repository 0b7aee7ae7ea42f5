package world_test

import (
	"cmp"
	"slices"

	"convoy/api"
	"convoy/recipe"
	"convoy/tick"
)

// plain is a world as the document tells it: lists that are searched, and what is left looked for behind each step.
type plain struct {
	script      api.Script
	now         int64
	turns       int
	state       uint64
	told        []int
	ready       []int
	clients     []plainClient
	callers     []plainCaller // all that there were
	loads       []*plainLoad
	runs        []*plainRun // all that were begun
	generations map[api.Key]int
	entries     []api.Kept // the one that was used the longest time ago first
	gone        []int      // tokens
	gathers     []*plainRun
	due         plainTimer
	timers      []plainTimer
	armed       int // how many were
	open        []int
	events      []api.Event
}

type plainTimer struct {
	api.Ring
	task int // -1 of a load that gathers
}

type plainClient struct {
	program []api.Do
	at      int
	token   int
	log     []api.Got
	slots   [16]plainSlot
	waits   int
}

type plainSlot struct {
	caller int
	full   bool
	got    api.Got
}

type plainCaller struct {
	client, place, slot int
	token, run, how     int
	waits               bool
}

type plainRun struct {
	api.Run
	steps     []api.Step
	counts    bool // the entry of a refresh, as one that waits
	cancelled bool
	ended     bool
	outcome   api.Outcome
}

type plainLoad struct {
	task  int
	runs  []*plainRun
	at    int
	state api.Cook
	gate  int // at which it waits
	came  int // the how manieth it was that came to a gate
	wait  int
	ended bool
}

func newPlain(s api.Script) *plain {
	p := &plain{script: s, state: s.Seed, generations: map[api.Key]int{}}
	for n, l := range s.Clients {
		p.clients = append(p.clients, plainClient{program: l})
		if len(l) > 0 {
			p.ready = append(p.ready, n)
		}
	}
	return p
}

func (p *plain) happens(e api.Event) {
	e.At = p.now
	p.events = append(p.events, e)
}

// pick is the place of the one whose turn it is.
func (p *plain) pick() int {
	n := len(p.ready)
	if len(p.told) < len(p.script.Picks) {
		return (p.script.Picks[len(p.told)]%n + n) % n
	}
	switch p.script.Policy {
	case api.PickLast:
		return n - 1
	case api.PickLot:
		p.state = tick.Mix(p.state + 0x9e3779b97f4a7c15)
		place, _ := tick.Part(p.state, n)
		return place
	case api.PickLeast:
		return slices.Index(p.ready, slices.Min(p.ready))
	case api.PickMost:
		return slices.Index(p.ready, slices.Max(p.ready))
	}
	return 0
}

func (p *plain) turn() bool {
	switch {
	case len(p.ready) > 0:
		place := p.pick()
		task := p.ready[place]
		p.told = append(p.told, place)
		p.ready = slices.Delete(p.ready, place, place+1)
		if task < len(p.clients) {
			p.stepClient(task)
		} else {
			p.stepLoad(p.loads[task-len(p.clients)])
		}
	case len(p.timers) > 0:
		p.leap()
	default:
		return false
	}
	p.turns++
	if len(p.gathers) > 0 && p.due.At <= p.now {
		p.send()
	}
	return true
}

// sorted is all timers that are armed, in the order in which they ring.
func (p *plain) sorted() []plainTimer {
	return slices.SortedFunc(slices.Values(p.timers), func(x, y plainTimer) int {
		return cmp.Or(cmp.Compare(x.At, y.At), cmp.Compare(x.Timer, y.Timer))
	})
}

func (p *plain) leap() {
	all := p.sorted()
	p.now = all[0].At
	for len(all) > 0 && all[0].At == p.now {
		if task := all[0].task; task >= len(p.clients) {
			p.wakeLoad(task)
		} else if task >= 0 && p.clients[task].at < len(p.clients[task].program) {
			p.ready = append(p.ready, task)
		}
		all = all[1:]
	}
	p.timers = all
}

// arm arms a timer for a task.
func (p *plain) arm(d int64, task int) plainTimer {
	p.armed++
	at := int64(last)
	if d < last-p.now {
		at = p.now + d
	}
	timer := plainTimer{api.Ring{Timer: p.armed, At: at}, task}
	p.timers = append(p.timers, timer)
	return timer
}

func (p *plain) wakeLoad(task int) {
	p.loads[task-len(p.clients)].wait = 0
	p.ready = append(p.ready, task)
}

func (p *plain) sleeps(task int) bool {
	return slices.ContainsFunc(p.timers, func(x plainTimer) bool { return x.task == task })
}

func (p *plain) stepClient(n int) {
	m := &p.clients[n]
	place, do := m.at, m.program[m.at]
	m.at++
	switch do.Op {
	case api.DoCall:
		p.ask(n, place, -1, do.Key)
	case api.DoStart:
		p.ask(n, place, do.Slot, do.Key)
	case api.DoAwait:
		switch s := m.slots[do.Slot]; {
		case s.full:
			s.got.Place = place
			m.log, m.slots[do.Slot] = append(m.log, s.got), plainSlot{}
		case s.caller > 0:
			m.waits = s.caller
			p.callers[s.caller-1].place = place
		default:
			m.log = append(m.log, api.Got{Place: place, At: p.now})
		}
	case api.DoForget:
		p.forget(n, do.Key)
	case api.DoCancel:
		p.cancel(int(do.N))
	case api.DoOpen:
		p.opened(int(do.N))
	case api.DoShut:
		p.open = slices.DeleteFunc(p.open, func(gate int) bool { return gate == int(do.N) })
	case api.DoSleep:
		p.arm(do.N, n)
	case api.DoToken:
		m.token = int(do.N)
	}
	if m.at < len(m.program) && m.waits == 0 && !p.sleeps(n) {
		p.ready = append(p.ready, n)
	}
}

// opened opens a gate: loads go on in the order in which they came.
func (p *plain) opened(gate int) {
	p.open = append(p.open, gate)
	var all []*plainLoad
	for _, l := range p.loads {
		if l.wait == api.WaitGate && l.gate == gate {
			all = append(all, l)
		}
	}
	slices.SortFunc(all, func(x, y *plainLoad) int { return cmp.Compare(x.came, y.came) })
	for _, l := range all {
		p.wakeLoad(l.task)
	}
}

func (p *plain) entry(k api.Key) int {
	return slices.IndexFunc(p.entries, func(e api.Kept) bool { return e.Key == k })
}

// how is how the entry in a place is now: 1 fresh, 2 stale, 3 neither.
func (p *plain) how(place int) int {
	if place < 0 {
		return 3
	}
	e, c := p.entries[place], p.script.Config
	age, isValue := p.now-e.At, e.Outcome.Fail == api.Fail{}
	switch {
	case isValue && age < c.TTL, !isValue && age < c.Negative:
		return 1
	case isValue && age-c.TTL < c.Stale:
		return 2
	}
	return 3
}

// use lets the entry in a place be the one that was used last, and tells its outcome.
func (p *plain) use(place int) api.Outcome {
	e := p.entries[place]
	p.entries = append(slices.Delete(p.entries, place, place+1), e)
	return e.Outcome
}

func (p *plain) current(r *plainRun) bool {
	return !r.ended && r.Generation == p.generations[r.Key]
}

// currentOf is the current run of a key, nil if there is none.
func (p *plain) currentOf(k api.Key) *plainRun {
	for _, r := range p.runs {
		if r.Key == k && p.current(r) {
			return r
		}
	}
	return nil
}

// progress is all runs in progress.
func (p *plain) progress() []*plainRun {
	return slices.DeleteFunc(slices.Clone(p.runs), func(r *plainRun) bool { return r.ended })
}

// waiters is the callers who wait for a run, in the order in which they joined.
func (p *plain) waiters(run int) []int {
	var all []int
	for i, x := range p.callers {
		if x.waits && x.run == run {
			all = append(all, i+1)
		}
	}
	return all
}

// begin begins the next run of a key.
func (p *plain) begin(k api.Key, refresh bool) *plainRun {
	number := 0
	for _, r := range p.runs {
		if r.Key == k {
			number++
		}
	}
	r := &plainRun{Run: api.Run{Run: len(p.runs) + 1, Key: k, Generation: p.generations[k], Refresh: refresh}, counts: refresh}
	for _, x := range p.script.Recipes {
		if x.Key == k && number >= 0 {
			r.steps = x.Steps
			number--
		}
	}
	p.runs = append(p.runs, r)
	how := 0
	if refresh {
		how = 1
	}
	p.happens(api.Event{Kind: api.EventBegin, Run: r.Run.Run, Key: k, Generation: r.Generation, How: how})
	return r
}

// gather lets a run wait for others, or sends it with them.
func (p *plain) gather(r *plainRun) {
	if r == nil {
		return
	}
	p.gathers = append(p.gathers, r)
	if c := p.script.Config; len(p.gathers) == c.Batch || c.Window == 0 {
		p.send()
		return
	}
	if len(p.gathers) == 1 {
		p.due = p.arm(p.script.Config.Window, -1)
	}
}

func (p *plain) send() {
	l := &plainLoad{task: len(p.clients) + len(p.loads), runs: p.gathers}
	p.gathers = nil
	p.timers = slices.DeleteFunc(p.timers, func(x plainTimer) bool { return x.task == -1 })
	for _, r := range l.runs {
		p.happens(api.Event{Kind: api.EventSend, Run: r.Run.Run})
	}
	p.loads, p.ready = append(p.loads, l), append(p.ready, l.task)
}

// ask lets a caller more ask: who waits behind that does so for a run.
func (p *plain) ask(n, place, slot int, k api.Key) {
	m := &p.clients[n]
	x := plainCaller{client: n, place: place, slot: slot, token: m.token}
	number := len(p.callers) + 1
	if slot >= 0 {
		m.slots[slot] = plainSlot{caller: number}
	}
	var begun *plainRun
	var o api.Outcome
	x.how, x.run, o, begun = p.meet(k, m.token)
	x.waits = x.run > 0
	p.happens(api.Event{Kind: api.EventJoin, Client: n + 1, Caller: number, Run: x.run, How: x.how, Key: k, Outcome: o})
	p.callers = append(p.callers, x)
	p.gather(begun)
	switch {
	case !x.waits:
		p.give(number, x.how, o)
	case slot < 0:
		m.waits = number
	}
}

// meet is what a caller meets: how, the run for which it waits, the outcome, and the run that is begun by that.
func (p *plain) meet(k api.Key, token int) (int, int, api.Outcome, *plainRun) {
	e, current, full := p.entry(k), p.currentOf(k), len(p.progress()) == p.script.Config.Flight
	switch {
	case token != 0 && slices.Contains(p.gone, token):
		return api.HowCancel, 0, cancelled, nil
	case p.how(e) == 1:
		return api.HowHit, 0, p.use(e), nil
	case p.how(e) == 2 && current != nil:
		return api.HowStale, 0, p.use(e), nil
	case p.how(e) == 2 && !full:
		o := p.use(e)
		return api.HowStale, 0, o, p.begin(k, true)
	case current != nil:
		return api.HowJoined, current.Run.Run, api.Outcome{}, nil
	case full:
		return api.HowBusy, 0, api.Outcome{Fail: api.Fail{Kind: api.FailBusy}}, nil
	}
	r := p.begin(k, false)
	return api.HowLed, r.Run.Run, api.Outcome{}, r
}

// cancelled is the outcome of who leaves.
var cancelled = api.Outcome{Fail: api.Fail{Kind: api.FailCancel}}

// give lets a caller, who waits no more, have an outcome.
func (p *plain) give(caller, how int, o api.Outcome) {
	x := &p.callers[caller-1]
	x.waits = false
	m, g := &p.clients[x.client], api.Got{Place: x.place, How: how, Outcome: o, At: p.now}
	awaited := m.waits == caller
	switch {
	case x.slot < 0 || awaited:
		m.log = append(m.log, g)
		if x.slot >= 0 {
			m.slots[x.slot] = plainSlot{}
		}
	case m.slots[x.slot].caller == caller:
		m.slots[x.slot] = plainSlot{full: true, got: g}
	}
	if awaited {
		m.waits = 0
		if m.at < len(m.program) {
			p.ready = append(p.ready, x.client)
		}
	}
}

// left cancels runs that nobody waits for, and abandons those of them that are current.
func (p *plain) left() {
	for _, r := range p.progress() {
		if r.cancelled || r.counts || len(p.waiters(r.Run.Run)) > 0 {
			continue
		}
		r.cancelled = true
		p.happens(api.Event{Kind: api.EventCancel, Run: r.Run.Run, Key: r.Key, Generation: r.Generation})
		if p.current(r) {
			p.generations[r.Key]++
			p.happens(api.Event{Kind: api.EventAbandon, Run: r.Run.Run, Key: r.Key, Generation: p.generations[r.Key]})
		}
	}
}

func (p *plain) cancel(token int) {
	p.gone = append(p.gone, token)
	for i, x := range p.callers {
		if !x.waits || x.token != token {
			continue
		}
		p.happens(api.Event{Kind: api.EventLeave, Client: x.client + 1, Caller: i + 1, Run: x.run, Key: p.runs[x.run-1].Key, Outcome: cancelled})
		p.give(i+1, api.HowCancel, cancelled)
		p.left()
	}
}

// drop lets the entry of a key go: it counts for its refresh no more.
func (p *plain) drop(k api.Key) {
	p.entries = slices.DeleteFunc(p.entries, func(e api.Kept) bool { return e.Key == k })
	for _, r := range p.progress() {
		if r.Key == k {
			r.counts = false
		}
	}
}

func (p *plain) forget(n int, k api.Key) {
	p.generations[k]++
	p.happens(api.Event{Kind: api.EventForget, Client: n + 1, Key: k, Generation: p.generations[k]})
	if p.entry(k) >= 0 {
		p.happens(api.Event{Kind: api.EventDrop, Key: k})
	}
	p.drop(k)
	p.left()
}

func (p *plain) stepLoad(l *plainLoad) {
	r := l.runs[l.at]
	if r.cancelled && l.state == (api.Cook{}) {
		p.cooked(l, api.Outcome{Fail: api.Fail{Kind: api.FailAbort, Run: r.Run.Run}})
		return
	}
	state, o, over, _ := recipe.Do(r.steps, l.state, api.Around{Key: r.Key, Run: r.Run.Run, Cancelled: r.cancelled})
	if over {
		p.cooked(l, o)
		return
	}
	l.state = api.Cook{At: state.At, Number: state.Number}
	switch {
	case state.Wait == api.WaitSleep:
		l.wait = api.WaitSleep
		p.arm(state.On, l.task)
	case state.Wait == api.WaitGate && !slices.Contains(p.open, int(state.On)):
		l.wait, l.gate, l.came = api.WaitGate, int(state.On), p.turns
	default:
		p.ready = append(p.ready, l.task)
	}
}

// cooked ends the recipe of the run at which a load is, and the load, if it is the last one or panicked.
func (p *plain) cooked(l *plainLoad, o api.Outcome) {
	l.runs[l.at].outcome = o
	l.at++
	l.state = api.Cook{}
	panicked := o.Fail.Kind == api.FailPanic
	if l.at < len(l.runs) && !panicked {
		p.ready = append(p.ready, l.task)
		return
	}
	l.ended = true
	for _, r := range l.runs {
		if panicked {
			r.outcome = o
		}
		p.end(r)
	}
}

// keeps is whether what a current run ends with is kept.
func (p *plain) keeps(r *plainRun) bool {
	c, f := p.script.Config, r.outcome.Fail
	switch {
	case c.Entries == 0:
		return false
	case f == api.Fail{}:
		return c.TTL > 0
	}
	return !r.Refresh && c.Negative > 0 && (f.Kind == api.FailLoad || f.Kind == api.FailPanic)
}

func (p *plain) end(r *plainRun) {
	waiters, current, run := p.waiters(r.Run.Run), p.current(r), r.Run.Run
	r.ended = true
	p.happens(api.Event{Kind: api.EventEnd, Run: run, Key: r.Key, Generation: r.Generation, Outcome: r.outcome})
	for _, caller := range waiters {
		x := p.callers[caller-1]
		p.happens(api.Event{Kind: api.EventTell, Client: x.client + 1, Caller: caller, Run: run, Key: r.Key, Outcome: r.outcome})
		p.give(caller, x.how, r.outcome)
	}
	if !current || !p.keeps(r) {
		return
	}
	p.happens(api.Event{Kind: api.EventKeep, Run: run, Key: r.Key, Outcome: r.outcome})
	p.drop(r.Key)
	p.entries = append(p.entries, api.Kept{Key: r.Key, Outcome: r.outcome, At: p.now})
	for len(p.entries) > p.script.Config.Entries {
		k := p.entries[0].Key
		p.happens(api.Event{Kind: api.EventDrop, Key: k})
		p.drop(k)
	}
	p.left()
}
