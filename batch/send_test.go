package batch_test

import (
	"testing"

	"convoy/api"
	"convoy/batch"
)

// TestDue: ahead of the first one, behind it, behind more, behind a load, and of the next load's first one (13.2).
func TestDue(t *testing.T) {
	b := of(t, 3, 10)
	same(t, b, 0, 0)
	add(t, b, 5, 1)
	same(t, b, 0, 15, 1)
	add(t, b, 14, 2)
	same(t, b, 0, 15, 1, 2)
	send(t, b, 14)
	same(t, b, 0, 15, 1, 2)
	send(t, b, 15, 1, 2)
	same(t, b, 1, 0)
	add(t, b, 17, 3)
	same(t, b, 1, 27, 3)
	force(t, b, 3)
	same(t, b, 2, 0)
	add(t, b, 18, 4)
	add(t, b, 19, 5)
	same(t, b, 2, 28, 4, 5)
	add(t, b, 20, 6, 4, 5, 6)
	same(t, b, 3, 0)
	add(t, b, 20, 7)
	same(t, b, 3, 30, 7)
}

// TestDueAtZero: the due tick hangs on the first one's tick and not on one that was told ahead of it (13.2).
func TestDueAtZero(t *testing.T) {
	b := of(t, 3, 1)
	add(t, b, 0, 1)
	same(t, b, 0, 1, 1)
	send(t, b, 1, 1)
	send(t, b, 50)
	add(t, b, 60, 2)
	same(t, b, 1, 61, 2)
}

// TestDueAtTheEnd: where the first one's tick and the window together are MaxTime, or above it (13.2).
func TestDueAtTheEnd(t *testing.T) {
	for _, x := range []struct{ window, at, due int64 }{
		{1, last - 2, last - 1}, {1, last - 1, last}, {1, last, last}, {2, last - 1, last},
		{last - 1, 0, last - 1}, {last - 1, 1, last}, {last - 1, 2, last},
		{last, 0, last}, {last, 1, last}, {last, last, last}, {last + 1, 0, last},
		{longest, 0, last}, {longest, 1, last}, {longest, last - 1, last}, {longest, last, last},
	} {
		b := of(t, 3, x.window)
		add(t, b, x.at, 1)
		same(t, b, 0, x.due, 1)
		if x.at < x.due {
			send(t, b, x.due-1)
			same(t, b, 0, x.due, 1)
		}
		send(t, b, x.due, 1)
		same(t, b, 1, 0)
	}
}

// TestSend: one tick ahead of the due tick nothing goes, at it and behind it all go, once (13.2).
func TestSend(t *testing.T) {
	for _, at := range []int64{10, 11, 12, 500, last} {
		b := of(t, 4, 7)
		add(t, b, 3, 1)
		add(t, b, 9, 2)
		add(t, b, 9, 5)
		send(t, b, 9)
		same(t, b, 0, 10, 1, 2, 5)
		send(t, b, at, 1, 2, 5)
		same(t, b, 1, 0)
		send(t, b, at)
		same(t, b, 1, 0)
		stands(t, b, at, 5)
	}
}

// TestSendWithNothing: nothing is sent, and the tick was told (13.2).
func TestSendWithNothing(t *testing.T) {
	b := of(t, 3, 10)
	send(t, b, 0)
	stands(t, b, 0, 0)
	send(t, b, 40)
	same(t, b, 0, 0)
	stands(t, b, 40, 0)
	add(t, b, 40, 1)
	send(t, b, 45)
	stands(t, b, 45, 1)
	same(t, b, 0, 50, 1)
	send(t, b, 50, 1)
	send(t, b, 50)
	send(t, b, last)
	same(t, b, 1, 0)
	stands(t, b, last, 1)
	for _, count := range []int{1, most} {
		b = of(t, count, 0)
		add(t, b, 0, 1, 1)
		send(t, b, 0)
		same(t, b, 1, 0)
	}
}

// TestSendNoTick: a tick that may not be changes nothing, though what waits were due (13.2).
func TestSendNoTick(t *testing.T) {
	b := of(t, 3, 10)
	noSend(t, b, api.ErrTick, noTicks...)
	same(t, b, 0, 0)
	add(t, b, 5, 1)
	noSend(t, b, api.ErrTick, noTicks...)
	same(t, b, 0, 15, 1)
	stands(t, b, 5, 1)
	send(t, b, last, 1)
	noSend(t, b, api.ErrTick, noTicks...)
	same(t, b, 1, 0)
	stands(t, b, last, 1)
}

// TestSendPast: below a tick that Add or Send told with OK, at it, and above it, though what waits were due (13.2).
func TestSendPast(t *testing.T) {
	b := of(t, 3, 10)
	send(t, b, 3)
	noSend(t, b, api.ErrPast, 2, 1, 0)
	send(t, b, 3)
	add(t, b, 4, 1)
	noSend(t, b, api.ErrPast, 3, 0)
	send(t, b, 4)
	add(t, b, 20, 2)
	noSend(t, b, api.ErrPast, 19, 14, 13, 0)
	same(t, b, 0, 14, 1, 2)
	stands(t, b, 20, 2)
	send(t, b, 20, 1, 2)
	noSend(t, b, api.ErrPast, 19)
	send(t, b, 21)
	noSend(t, b, api.ErrPast, 20)
	same(t, b, 1, 0)
}

// TestSendToldWithAnError: a tick that was told with an error is none that was told (13.2).
func TestSendToldWithAnError(t *testing.T) {
	b := of(t, 3, 10)
	noAdd(t, b, api.ErrArg, 30, noRuns...)
	send(t, b, 1)
	add(t, b, 2, 4)
	noAdd(t, b, api.ErrAdded, 30, 4, 1)
	noAdd(t, b, api.ErrArg, 30, noRuns...)
	noAdd(t, b, api.ErrPast, 1, 5)
	noSend(t, b, api.ErrPast, 1)
	noSend(t, b, api.ErrTick, last+1, longest)
	send(t, b, 2)
	send(t, b, 11)
	send(t, b, 12, 4)
}

// TestAddBehindTheDueTick: who is added there waits with those that are due already, until Send is called, or there are count (13.1, 13.2).
func TestAddBehindTheDueTick(t *testing.T) {
	b := of(t, 3, 10)
	add(t, b, 0, 1)
	add(t, b, 25, 2)
	same(t, b, 0, 10, 1, 2)
	twin := b.Clone()
	send(t, b, 25, 1, 2)
	same(t, b, 1, 0)
	add(t, twin, 26, 3, 1, 2, 3)
	same(t, twin, 1, 0)
}

// TestForce: due or not, all that wait go; where nothing does, no load is sent; no tick is told by that (13.2).
func TestForce(t *testing.T) {
	b := of(t, 3, 10)
	force(t, b)
	same(t, b, 0, 0)
	add(t, b, 4, 1)
	force(t, b, 1)
	same(t, b, 1, 0)
	force(t, b)
	same(t, b, 1, 0)
	stands(t, b, 4, 1)
	send(t, b, 14)
	same(t, b, 1, 0)
	add(t, b, 15, 2)
	add(t, b, 30, 4)
	force(t, b, 2, 4)
	same(t, b, 2, 0)
	stands(t, b, 30, 4)
	add(t, b, 30, 5)
	add(t, b, 30, 6)
	add(t, b, 30, 7, 5, 6, 7)
	force(t, b)
	same(t, b, 3, 0)
}

// TestHas: of a run that waits, that was sent by Add, Send or Force, and that was never added, between others too (13.2).
func TestHas(t *testing.T) {
	b := of(t, 4, 10)
	has := func(run int, want bool) {
		t.Helper()
		if got := b.Has(run); got != want {
			t.Fatalf("Has(%d): %t", run, got)
		}
	}
	has(3, false)
	add(t, b, 0, 3)
	add(t, b, 0, 5)
	add(t, b, 0, 9)
	for run := -2; run < 12; run++ {
		has(run, run == 3 || run == 5 || run == 9)
	}
	add(t, b, 0, 11, 3, 5, 9, 11)
	for run := -2; run < 14; run++ {
		has(run, false)
	}
	noAdd(t, b, api.ErrAdded, 0, 3, 4)
	noAdd(t, b, api.ErrTick, -1, 12)
	for run := -2; run < 14; run++ {
		has(run, false)
	}
	add(t, b, 0, 12)
	has(12, true)
	has(11, false)
	send(t, b, 10, 12)
	has(12, false)
	add(t, b, 10, 13)
	has(13, true)
	force(t, b, 13)
	has(13, false)
}

// TestHasOfMany: in a great load, each one that waits and none between them (13.2).
func TestHasOfMany(t *testing.T) {
	b := of(t, most, 10)
	for i := range most - 1 {
		add(t, b, 0, 2*i+2)
	}
	for run := range 2*most + 4 {
		want := run%2 == 0 && run > 0 && run < 2*most
		if got := b.Has(run); got != want {
			t.Fatalf("Has(%d): %t", run, got)
		}
	}
}

// TestSent: loads count, however they were sent and however great they were; calls that sent nothing do not (13.2).
func TestSent(t *testing.T) {
	b := of(t, 2, 10)
	sends := func(want int, what func()) {
		t.Helper()
		what()
		if got := b.Sent(); got != want {
			t.Fatalf("Sent: %d, not %d", got, want)
		}
	}
	sends(0, func() { force(t, b) })
	sends(0, func() { send(t, b, 0) })
	sends(0, func() { add(t, b, 0, 1) })
	sends(0, func() { send(t, b, 9) })
	sends(0, func() { noAdd(t, b, api.ErrAdded, 9, 1) })
	sends(0, func() { noSend(t, b, api.ErrPast, 8) })
	sends(1, func() { add(t, b, 9, 2, 1, 2) })
	sends(1, func() { force(t, b) })
	sends(1, func() { add(t, b, 9, 3) })
	sends(2, func() { force(t, b, 3) })
	sends(2, func() { force(t, b) })
	sends(2, func() { add(t, b, 9, 4) })
	sends(3, func() { send(t, b, 19, 4) })
	sends(3, func() { send(t, b, 19) })
	sends(3, func() { noSend(t, b, api.ErrTick, -1) })
	b = of(t, 1, 0)
	for run := 1; run <= 100; run++ {
		sends(run, func() { add(t, b, 0, run, run) })
	}
}

// TestAskingChangesNothing: Due, Runs, Has, Sent and Clone leave a batch as it is (R2, 13.2).
func TestAskingChangesNothing(t *testing.T) {
	ask := func(b *batch.Batch) {
		for range 3 {
			b.Due()
			b.Runs()
			b.Has(1)
			b.Has(2)
			b.Sent()
			b.Clone()
		}
	}
	b := of(t, 3, 10)
	ask(b)
	stands(t, b, 0, 0)
	add(t, b, 2, 1)
	ask(b)
	same(t, b, 0, 12, 1)
	stands(t, b, 2, 1)
	add(t, b, 2, 2)
	ask(b)
	add(t, b, 2, 3, 1, 2, 3)
	ask(b)
	same(t, b, 1, 0)
}
