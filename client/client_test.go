package client_test

import (
	"math"
	"slices"
	"testing"

	"convoy/api"
	"convoy/client"
)

// fresh makes a client.
func fresh(t *testing.T, l ...api.Do) *client.Client {
	t.Helper()
	c, at, err := client.New(l)
	if c == nil || at != 0 || err != api.OK {
		t.Fatalf("New: %v, %d, %d", c, at, err)
	}
	return c
}

// slotState is all that can be seen of a slot.
type slotState struct {
	what   int
	got    api.Got
	caller int // of a pending one, if it is a caller that is looked for
}

// state is all that can be seen of a client.
type state struct {
	at    int
	ahead []api.Do
	token int
	log   []api.Got
	slots [16]slotState
}

// callers is those that are looked for in pending slots.
var callers = []int{1, 2, 3, 4, 5, 7, 8, 1 << 32, math.MaxInt}

// see tells all that can be seen of a client, which stays as it is.
func see(c *client.Client) state {
	var s state
	s.token, s.log = c.Token(), c.Log()
	for i := range s.slots {
		twin := c.Clone()
		s.slots[i].got, s.slots[i].what, _ = twin.Take(i)
		for _, caller := range callers {
			if c.Clone().Fill(i, caller, api.Got{}) {
				s.slots[i].caller = caller
			}
		}
	}
	_, s.at, _ = c.Next()
	for twin := c.Clone(); ; twin.Go() {
		do, _, more := twin.Next()
		if !more {
			return s
		}
		s.ahead = append(s.ahead, do)
	}
}

func (s state) same(o state) bool {
	return s.at == o.at && slices.Equal(s.ahead, o.ahead) && s.token == o.token && slices.Equal(s.log, o.log) && s.slots == o.slots
}

// still looks that a client is as it was.
func still(t *testing.T, c *client.Client, was state) {
	t.Helper()
	if !see(c).same(was) {
		t.Fatalf("changed: %v, not %v", see(c), was)
	}
}

// busy is a client with something of all kinds.
func busy(t *testing.T) *client.Client {
	t.Helper()
	c := fresh(t, api.Do{Op: 1, Key: named("a")}, api.Do{Op: 2, Key: named("b"), Slot: 3}, api.Do{Op: 3, Slot: 3}, api.Do{Op: 8, N: 5})
	c.Go()
	c.Use(7)
	c.Had(api.Got{Place: 0, How: 5, Outcome: api.Outcome{Value: 9}, At: 4})
	c.Had(api.Got{Place: 1, How: 6, Outcome: api.Outcome{Fail: api.Fail{Kind: api.FailCancel}}, At: 5})
	c.Put(3, 8)
	c.Put(4, 7)
	c.Fill(4, 7, api.Got{Place: 1, How: 1, At: 2})
	return c
}

// next holds what is next against a thing to do and its place.
func next(t *testing.T, c *client.Client, want api.Do, wantAt int) {
	t.Helper()
	// Twice, as asking changes nothing.
	for range 2 {
		if do, at, more := c.Next(); do != want || at != wantAt || !more {
			t.Fatalf("Next: %v, %d, %t, not %v, %d", do, at, more, want, wantAt)
		}
	}
}

// over looks that a client is at its end, and stays there.
func over(t *testing.T, c *client.Client) {
	t.Helper()
	for range 3 {
		if do, at, more := c.Next(); do != (api.Do{}) || at != 0 || more {
			t.Fatalf("Next behind the end: %v, %d, %t", do, at, more)
		}
		if c.Go() {
			t.Fatal("Go behind the end")
		}
	}
}

// TestNew: a client is at its first thing to do, with no token, and had nothing (21.2).
func TestNew(t *testing.T) {
	c := fresh(t, sleeps(3)...)
	if s := see(c); s.at != 0 || !slices.Equal(s.ahead, sleeps(3)) || s.token != 0 || len(s.log) != 0 {
		t.Fatal(s)
	}
	for i, slot := range see(c).slots {
		if slot != (slotState{what: api.SlotEmpty}) {
			t.Fatalf("the slot %d: %v", i, slot)
		}
	}
	over(t, fresh(t))
}

// TestNewWrong: the errors of Check, and no client (21.2).
func TestNewWrong(t *testing.T) {
	for _, row := range []struct {
		l   []api.Do
		at  int
		err api.Errno
	}{
		{[]api.Do{{}}, 0, api.ErrDo},
		{[]api.Do{{Op: 1}, {Op: 5}}, 1, api.ErrDo},
		{sleeps(257), 256, api.ErrMany},
		{make([]api.Do, 257), 256, api.ErrMany},
	} {
		if c, at, err := client.New(row.l); c != nil || at != row.at || err != row.err {
			t.Errorf("New: %v, %d, %d, not %d, %d", c, at, err, row.at, row.err)
		}
	}
	// A name that has no line may be called all the same.
	next(t, fresh(t, unlined()[0]), unlined()[0], 0)
}

// TestGo: one thing after the other, each once, to the end and no further (21.2).
func TestGo(t *testing.T) {
	for _, n := range []int{0, 1, 2, 3, 255, 256} {
		l := sleeps(n)
		c := fresh(t, l...)
		for i := range n {
			next(t, c, l[i], i)
			if !c.Go() {
				t.Fatalf("Go at %d of %d", i, n)
			}
		}
		over(t, c)
		if c.Go() || c.Go() {
			t.Fatal("Go")
		}
	}
	l := good()[:256]
	c := fresh(t, l...)
	for i, do := range l {
		next(t, c, do, i)
		c.Go()
	}
	over(t, c)
}

// TestGoAlone: going on changes neither the token nor the log nor the slots (21.2).
func TestGoAlone(t *testing.T) {
	c := busy(t)
	was := see(c)
	for i := 2; i < 4; i++ {
		if !c.Go() {
			t.Fatal("Go")
		}
		was.at, was.ahead = i, was.ahead[1:]
		still(t, c, was)
	}
	if !c.Go() {
		t.Fatal("Go")
	}
	was.at, was.ahead = 0, nil
	still(t, c, was)
	over(t, c)
	still(t, c, was)
}

// TestUse: the token is the last one that was laid; 0 is none (21.2).
func TestUse(t *testing.T) {
	c := fresh(t, sleeps(1)...)
	for _, token := range []int{0, 1, 2, 1023, 1024, 1, 0, 512} {
		was := see(c)
		if err := c.Use(token); err != api.OK || c.Token() != token || c.Token() != token {
			t.Fatalf("Use(%d): %d, and Token: %d", token, err, c.Token())
		}
		was.token = token
		still(t, c, was)
	}
	for _, token := range []int{math.MinInt, -1024, -1, 1025, 1026, 1 << 32, math.MaxInt} {
		was := see(c)
		if err := c.Use(token); err != api.ErrArg {
			t.Fatalf("Use(%d): %d", token, err)
		}
		still(t, c, was)
	}
}

// TestUseAtTheEnd: a client that has nothing left to do has a token, too (21.2).
func TestUseAtTheEnd(t *testing.T) {
	c := fresh(t)
	if err := c.Use(1024); err != api.OK || c.Token() != 1024 {
		t.Fatal(err, c.Token())
	}
	if err := c.Use(1025); err != api.ErrArg || c.Token() != 1024 {
		t.Fatal(err, c.Token())
	}
}

// rightOutcomes is outcomes that may be.
var rightOutcomes = []api.Outcome{
	{}, {Value: 1}, {Value: -1}, {Value: math.MaxInt64}, {Value: math.MinInt64},
	{Fail: api.Fail{Kind: 1, Run: 1}}, {Fail: api.Fail{Kind: 1, Code: -7, Run: 3}}, {Fail: api.Fail{Kind: 2, Code: 5, Run: math.MaxInt}}, {Fail: api.Fail{Kind: 3}}, {Fail: api.Fail{Kind: 4}}, {Fail: api.Fail{Kind: 5, Run: 1}},
}

// wrongOutcomes is outcomes that may not be.
var wrongOutcomes = []api.Outcome{
	{Value: 1, Fail: api.Fail{Kind: 1, Run: 1}}, {Value: -1, Fail: api.Fail{Kind: 3}}, {Fail: api.Fail{Kind: 1}}, {Fail: api.Fail{Kind: 2, Run: -1}}, {Fail: api.Fail{Kind: 3, Code: 1}}, {Fail: api.Fail{Kind: 3, Run: 1}}, {Fail: api.Fail{Kind: 4, Run: 1}}, {Fail: api.Fail{Kind: 4, Code: 1}},
	{Fail: api.Fail{Kind: 5}}, {Fail: api.Fail{Kind: 5, Code: 1, Run: 1}}, {Fail: api.Fail{Kind: 6, Run: 1}}, {Fail: api.Fail{Kind: -1, Run: 1}}, {Fail: api.Fail{Code: 1}}, {Fail: api.Fail{Run: 1}},
}

// TestHad: what may be stands behind what the client had, whatever it is at, in the order in which it came (21.2).
func TestHad(t *testing.T) {
	c := fresh(t, sleeps(256)...)
	var all []api.Got
	had := func(g api.Got) {
		t.Helper()
		was := see(c)
		if err := c.Had(g); err != api.OK {
			t.Fatalf("Had(%v): %d", g, err)
		}
		all = append(all, g)
		was.log = all
		still(t, c, was)
	}
	for _, place := range []int{0, 1, 255, 254, 0, 0} {
		had(api.Got{Place: place})
	}
	for how := range 7 {
		had(api.Got{Place: 5, How: 6 - how, At: 3})
	}
	for _, at := range []int64{1 << 62, 1<<62 - 1, 0, 1} {
		had(api.Got{Place: 6, How: 1, At: at})
	}
	for _, o := range rightOutcomes {
		had(api.Got{Place: 7, How: 5, Outcome: o, At: 9})
	}
	had(all[0])
	for c.Go() {
		// To the end: what a client had may come later, too.
	}
	had(api.Got{Place: 255, How: 3, At: 1})
	had(api.Got{Place: 0, How: 3, At: 1})
	if log := c.Log(); !slices.Equal(log, all) {
		t.Fatalf("Log: %v", log)
	}
}

// TestHadWrong: each part that may not be, by itself (21.2).
func TestHadWrong(t *testing.T) {
	c := busy(t)
	was := see(c)
	refused := func(change func(g *api.Got)) {
		t.Helper()
		right := api.Got{Place: 3, How: 6, Outcome: api.Outcome{Value: 5}, At: 1 << 62}
		if err := c.Clone().Had(right); err != api.OK {
			t.Fatalf("Had(%v): %d", right, err)
		}
		g := right
		change(&g)
		if err := c.Had(g); err != api.ErrArg {
			t.Fatalf("Had(%v): %d", g, err)
		}
		still(t, c, was)
	}
	for _, place := range []int{math.MinInt, -1, 4, 5, 255, 256, math.MaxInt} {
		refused(func(g *api.Got) { g.Place = place })
	}
	for _, how := range []int{math.MinInt, -1, 7, 8, 255, math.MaxInt} {
		refused(func(g *api.Got) { g.How = how })
	}
	for _, at := range []int64{math.MinInt64, -1, 1<<62 + 1, math.MaxInt64} {
		refused(func(g *api.Got) { g.At = at })
	}
	for _, o := range wrongOutcomes {
		refused(func(g *api.Got) { g.Outcome = o })
	}
	refused(func(g *api.Got) { *g = api.Got{Place: -1, How: -1, Outcome: wrongOutcomes[0], At: -1} })
}

// TestHadOfNothing: a client without anything to do has no place (21.2).
func TestHadOfNothing(t *testing.T) {
	c := fresh(t)
	for _, place := range []int{-1, 0, 1} {
		if err := c.Had(api.Got{Place: place}); err != api.ErrArg || len(c.Log()) != 0 {
			t.Fatalf("Had at %d: %d, %v", place, err, c.Log())
		}
	}
}

// TestNil: every call of a nil client (21.4).
func TestNil(t *testing.T) {
	var c *client.Client
	numbers := []int{math.MinInt, -1, 0, 1, 15, 16, 1024, 1025, math.MaxInt}
	for range 2 {
		over(t, c)
		if c.Token() != 0 || len(c.Log()) != 0 || c.Clone() != nil {
			t.Fatal("Token, Log or Clone")
		}
		for _, n := range numbers {
			if err := c.Use(n); err != api.ErrArg {
				t.Fatalf("Use(%d): %d", n, err)
			}
			if err := c.Had(api.Got{Place: n}); err != api.ErrArg {
				t.Fatalf("Had: %d", err)
			}
			if g, what, err := c.Take(n); g != (api.Got{}) || what != 0 || err != api.ErrArg {
				t.Fatalf("Take(%d): %v, %d, %d", n, g, what, err)
			}
			for _, caller := range numbers {
				if err := c.Put(n, caller); err != api.ErrArg {
					t.Fatalf("Put(%d, %d): %d", n, caller, err)
				}
				if c.Fill(n, caller, api.Got{}) {
					t.Fatalf("Fill(%d, %d)", n, caller)
				}
			}
		}
	}
}

// TestZero: a client that no call gave does no harm (R1).
func TestZero(t *testing.T) {
	for _, c := range []*client.Client{new(client.Client), new(client.Client).Clone()} {
		over(t, c)
		c.Use(3)
		c.Had(api.Got{})
		c.Put(0, 1)
		c.Fill(0, 1, api.Got{})
		c.Take(0)
		c.Take(1)
		see(c)
	}
}
