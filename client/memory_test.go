package client_test

import (
	"runtime"
	"slices"
	"strings"
	"testing"

	"convoy/api"
	"convoy/client"
)

// spoil overwrites a list, and what lies in the room behind its end.
func spoil[T any](l []T, with T) {
	l = l[:cap(l)]
	for i := range l {
		l[i] = with
	}
}

var spoilt = api.Do{Op: 1, Key: named("spoilt"), N: 99, Slot: 99}

// TestHandedIn: a program that is handed in stays as it was, its spare room too (R4).
func TestHandedIn(t *testing.T) {
	for _, room := range [][]api.Do{sleeps(300), good(), unlined(), bad(), slices.Repeat([]api.Do{{Op: 1, Key: named("a")}}, 300)} {
		was := slices.Clone(room)
		for _, n := range []int{0, 1, 2, 20, len(room)} {
			list := room[:n]
			client.Check(list)
			client.Text(list)
			client.Keys(list)
			c, _, err := client.New(list)
			if err == api.OK {
				see(c)
				for c.Go() {
					c.Had(api.Got{})
				}
			}
			if !slices.Equal(room, was) {
				t.Fatal("changed what was handed in")
			}
		}
	}
}

// TestProgramIsNotKept: what becomes of a list that was handed in is nothing to the client (R4).
func TestProgramIsNotKept(t *testing.T) {
	room := sleeps(20)
	for _, n := range []int{0, 1, 5, 20} {
		c := fresh(t, room[:n]...)
		was := see(c)
		twin := c.Clone()
		spoil(room, spoilt)
		still(t, c, was)
		still(t, twin, was)
		copy(room, sleeps(20))
	}
}

// TestKeysApart: an answer shares no memory with another one, nor with what was handed in (R4).
func TestKeysApart(t *testing.T) {
	l := []api.Do{{Op: 1, Key: named("a")}, {Op: 2, Key: named("b")}, {Op: 4, Key: named("a")}}
	want := []api.Key{named("a"), named("b")}
	first, second := client.Keys(l), client.Keys(l)
	spoil(first, named("spoilt"))
	if !slices.Equal(second, want) || l[0].Key != named("a") {
		t.Fatalf("spoilt with another answer: %v", second)
	}
	spoil(l, spoilt)
	if !slices.Equal(second, want) {
		t.Fatalf("spoilt with what was handed in: %v", second)
	}
}

// TestParseApart: nor does a program that was read (R4).
func TestParseApart(t *testing.T) {
	s := textByHand(sleeps(50))
	first, _, _ := client.Parse(s)
	second, _, _ := client.Parse(s)
	spoil(first, spoilt)
	if !slices.Equal(second, sleeps(50)) {
		t.Fatal("spoilt with another answer")
	}
}

// TestLogApart: nor does a log, with what is kept neither (R4).
func TestLogApart(t *testing.T) {
	c := fresh(t, sleeps(5)...)
	bad := api.Got{Place: 99, How: 99, At: 99}
	var want []api.Got
	for i := range 20 {
		was := slices.Clone(want)
		first, second := c.Log(), c.Log()
		spoil(first, bad)
		if !slices.Equal(second, was) {
			t.Fatalf("spoilt with another answer: %v", second)
		}
		g := api.Got{Place: i % 5, At: int64(i)}
		if err := c.Had(g); err != api.OK {
			t.Fatal(err)
		}
		want = append(want, g)
		if !slices.Equal(second, was) || !slices.Equal(c.Log(), want) {
			t.Fatalf("Log: %v, not %v", c.Log(), want)
		}
		spoil(second, bad)
		if !slices.Equal(c.Log(), want) {
			t.Fatalf("spoilt with an answer: %v", c.Log())
		}
	}
}

// changes is what can be done to a client.
func changes(t *testing.T) []func(c *client.Client) {
	return []func(c *client.Client){
		func(c *client.Client) { c.Go() },
		func(c *client.Client) {
			for c.Go() {
				// To the end.
			}
		},
		func(c *client.Client) { c.Use(c.Token() + 1) },
		func(c *client.Client) { c.Had(api.Got{Place: 2, How: 3, At: 8}) },
		func(c *client.Client) {
			for i := range 10 {
				c.Had(api.Got{Place: 3, How: 4, At: int64(i)})
			}
		},
		func(c *client.Client) { c.Put(0, 5) },
		func(c *client.Client) { c.Put(15, 5) },
		func(c *client.Client) { c.Put(3, 5) },
		func(c *client.Client) { c.Put(4, 5) },
		func(c *client.Client) { c.Fill(3, 8, api.Got{At: 6}) },
		func(c *client.Client) { c.Take(4) },
	}
}

// TestClone: the clone is the same, and neither of the two sees what is done with the other (21.4).
func TestClone(t *testing.T) {
	all := changes(t)
	for i, one := range all {
		for _, other := range all {
			c := busy(t)
			was := see(c)
			twin := c.Clone()
			if twin == nil || twin == c {
				t.Fatal("the clone is none, or the client itself")
			}
			still(t, twin, was)
			one(c)
			then := see(c)
			if then.same(was) {
				t.Fatalf("the change %d is none", i)
			}
			still(t, twin, was)
			other(twin)
			still(t, c, then)
			third := twin.Clone()
			one(twin)
			one(third)
			still(t, third, see(twin))
			still(t, c, then)
		}
	}
	if c := fresh(t).Clone(); c == nil || !see(c).same(see(fresh(t))) {
		t.Fatal("the clone of one that has nothing to do")
	}
}

// TestCloneLogs: nor where both logs go on in the room that was left (21.4).
func TestCloneLogs(t *testing.T) {
	for n := range 20 {
		c := fresh(t, sleeps(5)...)
		var had []api.Got
		for i := range n {
			had = append(had, api.Got{At: int64(i)})
			c.Had(had[i])
		}
		twin := c.Clone()
		c.Had(api.Got{Place: 1})
		twin.Had(api.Got{Place: 2})
		c.Had(api.Got{Place: 3})
		twin.Had(api.Got{Place: 4})
		if got, want := c.Log(), append(slices.Clone(had), api.Got{Place: 1}, api.Got{Place: 3}); !slices.Equal(got, want) {
			t.Fatalf("%v, not %v", got, want)
		}
		if got, want := twin.Log(), append(slices.Clone(had), api.Got{Place: 2}, api.Got{Place: 4}); !slices.Equal(got, want) {
			t.Fatalf("%v, not %v", got, want)
		}
	}
}

// TestApart: two clients of one program know nothing of one another (R5).
func TestApart(t *testing.T) {
	one, other := busy(t), busy(t)
	was := see(other)
	for _, change := range changes(t) {
		change(one)
		still(t, other, was)
	}
}

// weight is how many bytes a clone of a client takes.
func weight(c *client.Client) uint64 {
	var before, after runtime.MemStats
	runtime.ReadMemStats(&before)
	twin := c.Clone()
	runtime.ReadMemStats(&after)
	runtime.KeepAlive(twin)
	return after.TotalAlloc - before.TotalAlloc
}

// TestNothingMoreIsKept: slots, tokens and what was refused take no more room, however often they are laid.
func TestNothingMoreIsKept(t *testing.T) {
	c := fresh(t, sleeps(2)...)
	for i := range 50000 {
		c.Use(i % 1025)
		c.Put(i%16, i+1)
		c.Fill(i%16, i+1, api.Got{At: int64(i)})
		c.Take(i % 16)
		c.Had(api.Got{Place: 2})
		c.Go()
	}
	if bytes := weight(c); bytes > 8192 {
		t.Errorf("a client that had nothing takes %d bytes", bytes)
	}
}

// TestNamesAreNoPieces: a program that was read does not hold on to its text.
func TestNamesAreNoPieces(t *testing.T) {
	var all [][]api.Do
	var before, after runtime.MemStats
	runtime.GC()
	runtime.ReadMemStats(&before)
	for range 100 {
		text := "call 0:a\n" + strings.Repeat("call 0:"+strings.Repeat("n", 64)+"\n", 255)
		l, _, err := client.Parse(strings.Clone(text))
		if err != api.OK {
			t.Fatal(err)
		}
		all = append(all, slices.Clone(l[:1]))
	}
	runtime.GC()
	runtime.ReadMemStats(&after)
	runtime.KeepAlive(all)
	if grown := int64(after.HeapAlloc) - int64(before.HeapAlloc); grown > 200000 {
		t.Errorf("100 things to do take %d bytes", grown)
	}
}
