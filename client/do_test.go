package client_test

import (
	"math"
	"slices"
	"testing"

	"convoy/api"
	"convoy/client"
)

// The calls are those that the chapter lists: a change of one does not compile.
var (
	_ func([]api.Do) (int, api.Errno)                            = client.Check
	_ func([]api.Do) (string, int, api.Errno)                    = client.Text
	_ func(string) ([]api.Do, int, api.Errno)                    = client.Parse
	_ func([]api.Do) []api.Key                                   = client.Keys
	_ func([]api.Do) (*client.Client, int, api.Errno)            = client.New
	_ func(*client.Client) (api.Do, int, bool)                   = (*client.Client).Next
	_ func(*client.Client) bool                                  = (*client.Client).Go
	_ func(*client.Client) int                                   = (*client.Client).Token
	_ func(*client.Client, int) api.Errno                        = (*client.Client).Use
	_ func(*client.Client, api.Got) api.Errno                    = (*client.Client).Had
	_ func(*client.Client) []api.Got                             = (*client.Client).Log
	_ func(c *client.Client, slot, caller int) api.Errno         = (*client.Client).Put
	_ func(c *client.Client, slot, caller int, g api.Got) bool   = (*client.Client).Fill
	_ func(c *client.Client, slot int) (api.Got, int, api.Errno) = (*client.Client).Take
	_ func(*client.Client) *client.Client                        = (*client.Client).Clone
	_ struct {
		Op   int
		Key  api.Key
		N    int64
		Slot int
	} = api.Do{}
	_ struct {
		Place, How int
		Outcome    api.Outcome
		At         int64
	} = api.Got{}
)

// TestNumbers: the numbers that the chapter gives.
func TestNumbers(t *testing.T) {
	for i, n := range []int{
		api.DoCall, api.DoStart, api.DoAwait, api.DoForget, api.DoCancel, api.DoOpen, api.DoShut, api.DoSleep, api.DoToken,
	} {
		if n != i+1 {
			t.Errorf("an Op is %d, not %d", n, i+1)
		}
	}
	for i, n := range []int{api.HowNone, api.HowHit, api.HowStale, api.HowJoined, api.HowBusy, api.HowLed, api.HowCancel} {
		if n != i {
			t.Errorf("a How is %d, not %d", n, i)
		}
	}
	if api.ErrDo != 210 || api.ErrSlot != 211 || api.ErrWord != 212 || api.SlotEmpty != 1 || api.SlotPending != 2 || api.SlotFull != 3 {
		t.Error("the errors, or the slots")
	}
	if api.MaxSlots != 16 || api.MostToken != 1024 || api.MaxSteps != 256 || api.MaxTime != 1<<62 || api.MaxGates != 256 || api.ErrMany != 3 {
		t.Error("the limits")
	}
}

// sleeps is a program of so many things to do, no two of which are the same.
func sleeps(n int) []api.Do {
	var all []api.Do
	for i := range n {
		all = append(all, api.Do{Op: api.DoSleep, N: int64(i)})
	}
	return all
}

// checked holds what Check answers against a place and an error, and New with it.
func checked(t *testing.T, l []api.Do, wantAt int, want api.Errno) {
	t.Helper()
	if at, err := client.Check(l); at != wantAt || err != want {
		t.Fatalf("Check of %d things: %d, %d, not %d, %d", len(l), at, err, wantAt, want)
	}
	c, at, err := client.New(l)
	if (c == nil) != (want != api.OK) || at != wantAt || err != want {
		t.Fatalf("New of %d things: %d, %d, not %d, %d", len(l), at, err, wantAt, want)
	}
}

// TestCheck: each thing that may be, by itself, and all in one place or another (21.1, 21.2).
func TestCheck(t *testing.T) {
	checked(t, nil, 0, api.OK)
	checked(t, []api.Do{}, 0, api.OK)
	for _, do := range slices.Concat(good(), unlined()) {
		checked(t, []api.Do{do}, 0, api.OK)
		checked(t, slices.Concat(sleeps(3), []api.Do{do}, sleeps(2)), 0, api.OK)
	}
	for part := range slices.Chunk(good(), 256) {
		checked(t, part, 0, api.OK)
	}
}

// TestCheckEach: the table of the chapter, row by row, at its edges (21.1).
func TestCheckEach(t *testing.T) {
	a := named("a")
	for _, row := range []struct {
		do  api.Do
		may bool
	}{
		{api.Do{}, false},
		{api.Do{Op: -1}, false}, {api.Do{Op: 10}, false}, {api.Do{Op: 10, N: 1}, false},
		{api.Do{Op: 1}, true}, {api.Do{Op: 1, Key: a}, true}, {api.Do{Op: 1, Key: a, N: 1}, false}, {api.Do{Op: 1, Key: a, N: -1}, false}, {api.Do{Op: 1, Key: a, Slot: 1}, false}, {api.Do{Op: 1, Key: a, Slot: -1}, false},
		{api.Do{Op: 2}, true}, {api.Do{Op: 2, Key: a}, true}, {api.Do{Op: 2, Key: a, Slot: 15}, true}, {api.Do{Op: 2, Key: a, Slot: 16}, false}, {api.Do{Op: 2, Key: a, Slot: -1}, false}, {api.Do{Op: 2, Key: a, Slot: 1, N: 1}, false},
		{api.Do{Op: 3}, true}, {api.Do{Op: 3, Slot: 15}, true}, {api.Do{Op: 3, Slot: 16}, false}, {api.Do{Op: 3, Slot: -1}, false}, {api.Do{Op: 3, Key: a}, false}, {api.Do{Op: 3, Key: api.Key{Space: 1}}, false}, {api.Do{Op: 3, N: 1}, false},
		{api.Do{Op: 4}, true}, {api.Do{Op: 4, Key: a}, true}, {api.Do{Op: 4, Key: a, N: 1}, false}, {api.Do{Op: 4, Key: a, Slot: 1}, false},
		{api.Do{Op: 5}, false}, {api.Do{Op: 5, N: -1}, false}, {api.Do{Op: 5, N: 1}, true}, {api.Do{Op: 5, N: 1024}, true}, {api.Do{Op: 5, N: 1025}, false}, {api.Do{Op: 5, N: 1, Key: a}, false}, {api.Do{Op: 5, N: 1, Slot: 1}, false},
		{api.Do{Op: 6}, true}, {api.Do{Op: 6, N: -1}, false}, {api.Do{Op: 6, N: 255}, true}, {api.Do{Op: 6, N: 256}, false}, {api.Do{Op: 6, Key: a}, false}, {api.Do{Op: 6, Slot: 1}, false},
		{api.Do{Op: 7}, true}, {api.Do{Op: 7, N: -1}, false}, {api.Do{Op: 7, N: 255}, true}, {api.Do{Op: 7, N: 256}, false}, {api.Do{Op: 7, Key: a}, false}, {api.Do{Op: 7, Slot: 1}, false},
		{api.Do{Op: 8}, true}, {api.Do{Op: 8, N: -1}, false}, {api.Do{Op: 8, N: 1 << 62}, true}, {api.Do{Op: 8, N: 1<<62 + 1}, false}, {api.Do{Op: 8, Key: a}, false}, {api.Do{Op: 8, Slot: 1}, false},
		{api.Do{Op: 9}, true}, {api.Do{Op: 9, N: -1}, false}, {api.Do{Op: 9, N: 1}, true}, {api.Do{Op: 9, N: 1024}, true}, {api.Do{Op: 9, N: 1025}, false}, {api.Do{Op: 9, Key: a}, false}, {api.Do{Op: 9, Slot: 1}, false},
	} {
		want := api.ErrDo
		if row.may {
			want = api.OK
		}
		if at, err := client.Check([]api.Do{row.do}); at != 0 || err != want {
			t.Errorf("Check(%v): %d, %d, not %d", row.do, at, err, want)
		}
	}
}

// TestCheckWrong: the first thing that may not be is told by its place (21.1, 21.2).
func TestCheckWrong(t *testing.T) {
	for _, do := range bad() {
		checked(t, []api.Do{do}, 0, api.ErrDo)
		checked(t, slices.Concat(sleeps(3), []api.Do{do, {}, do}), 3, api.ErrDo)
		checked(t, slices.Concat(sleeps(255), []api.Do{do}), 255, api.ErrDo)
	}
	for at := range 256 {
		l := sleeps(256)
		l[at].Op = 0
		l[255].Op = 10
		checked(t, l, at, api.ErrDo)
	}
}

// TestCheckMany: as many as there may be, and more, which is told ahead of a thing that may not be (21.1, 21.2).
func TestCheckMany(t *testing.T) {
	for _, n := range []int{1, 2, 255, 256} {
		checked(t, sleeps(n), 0, api.OK)
	}
	for _, n := range []int{257, 258, 512, 100000} {
		checked(t, sleeps(n), 256, api.ErrMany)
		checked(t, make([]api.Do, n), 256, api.ErrMany)
		checked(t, slices.Concat([]api.Do{{}}, sleeps(n-1)), 256, api.ErrMany)
		checked(t, slices.Concat(sleeps(n-1), []api.Do{{}}), 256, api.ErrMany)
	}
}

// keys holds the keys of some things to do against others.
func keys(t *testing.T, l []api.Do, want ...api.Key) {
	t.Helper()
	if got := client.Keys(l); !slices.Equal(got, want) {
		t.Fatalf("Keys(%v): %v, not %v", l, got, want)
	}
}

// TestKeys: of what is called, started and forgotten, each once, as they come first (21.1).
func TestKeys(t *testing.T) {
	a, b, other := named("a"), named("b"), api.Key{Space: 1, Name: "a"}
	keys(t, nil)
	keys(t, []api.Do{})
	keys(t, sleeps(5))
	for _, op := range []int{1, 2, 4} {
		keys(t, []api.Do{{Op: op, Key: b}}, b)
		keys(t, []api.Do{{Op: op}}, api.Key{})
		keys(t, []api.Do{{Op: op, Key: b}, {Op: op, Key: a}, {Op: op, Key: b}, {Op: op, Key: b}, {Op: op, Key: a}}, b, a)
		keys(t, []api.Do{{Op: op, Key: b}, {Op: 3}, {Op: op, Key: other}, {Op: 8, N: 5}, {Op: op, Key: a}, {Op: op}, {Op: 1, Key: b}, {Op: 2, Key: a}, {Op: 4, Key: other}, {Op: 2}}, b, other, a, api.Key{})
	}
	keys(t, []api.Do{{Op: 4, Key: b}, {Op: 2, Key: a, Slot: 3}, {Op: 1, Key: b}, {Op: 2, Key: a, Slot: 4}, {Op: 1, Key: named("c")}}, b, a, named("c"))
	keys(t, slices.Repeat([]api.Do{{Op: 1, Key: a}}, 256), a)
}

// TestKeysOfNone: what names no key has none, whatever stands there (21.1).
func TestKeysOfNone(t *testing.T) {
	a := named("a")
	for _, op := range []int{math.MinInt, -2, -1, 0, 3, 5, 6, 7, 8, 9, 10, 11, 100, math.MaxInt} {
		keys(t, []api.Do{{Op: op}})
		keys(t, []api.Do{{Op: op, Key: a}})
		keys(t, []api.Do{{Op: op, Key: named("b")}, {Op: 1, Key: a}, {Op: op, Key: named("c")}}, a)
	}
}

// TestKeysOfAny: Keys asks for the Op alone: a thing to do that may not be has its key, too, and there is no bound (21.1).
func TestKeysOfAny(t *testing.T) {
	for _, op := range []int{1, 2, 4} {
		keys(t, []api.Do{{Op: op, Key: named("a"), N: -1, Slot: 99}}, named("a"))
		for _, k := range slices.Concat(wrongKeys, lines) {
			keys(t, []api.Do{{Op: op, Key: k}, {Op: op, Key: k}}, k)
		}
	}
	var l []api.Do
	var want []api.Key
	for i := range 3000 {
		k := api.Key{Space: uint16(i % 1500), Name: "many"}
		l = append(l, api.Do{Op: []int{1, 2, 4}[i%3], Key: k})
		if i < 1500 {
			want = append(want, k)
		}
	}
	keys(t, l, want...)
}
