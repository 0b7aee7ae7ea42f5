package audit_test

import (
	"math"
	"testing"

	"convoy/api"
	"convoy/audit"
)

// TestSameOutcome: who is told has what the last End of the run told (25.2).
func TestSameOutcome(t *testing.T) {
	table(t, audit.Same, []row{
		{"0 end r1 v7 k0:a; 0 tell n1 r1 v7 k0:a", -1}, {"0 end r1 k0:a; 0 tell n1 r1 k0:a", -1}, {"0 end r1 f1:4:1 k0:a; 0 tell n1 r1 f1:4:1 k0:a; 5 tell n2 r1 f1:4:1 k0:a", -1}, {"0 end; 0 tell n1", -1},
		// Without an End, or ahead of it, or by that of another run.
		{"0 tell n1 r1 k0:a", 0}, {"0 tell n1 r1 v7 k0:a; 0 end r1 v7 k0:a", 0}, {"0 end r2 v7 k0:a; 0 tell n1 r1 v7 k0:a", 1}, {"0 end r2 k0:a; 0 tell n1 r1 k0:a", 1}, {"0 tell n1", 0}, {"0 end r1; 0 tell n1", 1}, {"0 end r1 v7 k0:a; 0 end r2 v8 k0:a; 0 tell n1 r1 v8 k0:a", 2}, {"0 end r1 v7 k0:a; 0 end r2 v8 k0:a; 0 tell n1 r1 v7 k0:a; 0 tell n2 r2 v8 k0:a", -1},
		{"0 begin r1 k0:a; 0 join n1 r1 h5 k0:a; 0 keep r1 v7 k0:a; 0 tell n1 r1 v7 k0:a", 3},
		// Of another outcome.
		{"0 end r1 v7 k0:a; 0 tell n1 r1 v8 k0:a", 1}, {"0 end r1 v7 k0:a; 0 tell n1 r1 k0:a", 1}, {"0 end r1 k0:a; 0 tell n1 r1 v7 k0:a", 1}, {"0 end r1 v7 k0:a; 0 tell n1 r1 v-7 k0:a", 1}, {"0 end r1 k0:a; 0 tell n1 r1 f1:0:1 k0:a", 1}, {"0 end r1 f1:0:1 k0:a; 0 tell n1 r1 k0:a", 1},
		{"0 end r1 f1:4:1 k0:a; 0 tell n1 r1 f2:4:1 k0:a", 1}, {"0 end r1 f1:4:1 k0:a; 0 tell n1 r1 f1:5:1 k0:a", 1}, {"0 end r1 f1:4:1 k0:a; 0 tell n1 r1 f1:4:2 k0:a", 1}, {"0 end r1 f5:0:1 k0:a; 0 tell n1 r1 f3:0:0 k0:a", 1},
		// Of the last of several Ends.
		{"0 end r1 v7 k0:a; 0 end r1 v8 k0:a; 0 tell n1 r1 v8 k0:a", -1}, {"0 end r1 v7 k0:a; 0 end r1 v8 k0:a; 0 tell n1 r1 v7 k0:a", 2}, {"0 end r1 v7 k0:a; 0 tell n1 r1 v7 k0:a; 0 end r1 v8 k0:a; 0 tell n2 r1 v8 k0:a; 0 tell n3 r1 v7 k0:a", 4}, {"0 end r1 v7 k0:a; 0 begin r1 k0:a; 0 tell n1 r1 v7 k0:a", -1},
		// The key, the client, the tick and whether somebody joined are not asked.
		{"0 end r1 v7 k0:a; 9 tell c1 n1 r1 v7 k0:b; 9 tell c1 n2 r1 v7 k0:a", -1},
	})
	// What may not be is compared, too.
	for _, f := range []api.Fail{{Kind: 0, Code: 1}, {Kind: 9, Code: 9, Run: -9}, {Kind: -1}, {Kind: 1, Code: math.MinInt, Run: math.MaxInt}} {
		o := api.Outcome{Value: math.MinInt64, Fail: f}
		l := []api.Event{{Kind: api.EventEnd, Run: -1, Outcome: o}, {Kind: api.EventTell, Run: -1, Outcome: o}, {Kind: api.EventTell, Caller: 1, Run: -1, Outcome: api.Outcome{Value: math.MinInt64}}, {Kind: api.EventTell, Caller: 2, Run: -1}}
		answers(t, "an outcome that may not be", audit.Same, l, 2)
		answers(t, "an outcome that may not be", audit.Same, l[:2], -1)
		l[2].Outcome = api.Outcome{Fail: f}
		answers(t, "an outcome that may not be", audit.Same, l, 2)
	}
}

// TestSameOnce: nobody is told who was told, or left, by whatever run (25.2).
func TestSameOnce(t *testing.T) {
	table(t, audit.Same, []row{
		{"0 end r1 v7 k0:a; 0 tell n1 r1 v7 k0:a; 0 tell n1 r1 v7 k0:a", 2}, {"0 end r1 v7 k0:a; 0 tell n1 r1 v7 k0:a; 0 tell n2 r1 v7 k0:a; 0 tell n1 r1 v7 k0:a", 3}, {"0 end r1 v7 k0:a; 0 tell r1 v7 k0:a; 0 tell r1 v7 k0:a", 2},
		{"0 end r1 v7 k0:a; 0 tell n1 r1 v7 k0:a; 0 end r2 v8 k0:b; 0 tell n1 r2 v8 k0:b", 3}, {"0 end r1 v7 k0:a; 0 tell c1 n1 r1 v7 k0:a; 0 tell c2 n1 r1 v7 k0:a", 2},
		// Be it that it joined again.
		{"0 join n1 r1 h5 k0:a; 0 end r1 k0:a; 0 tell n1 r1 k0:a; 0 join n1 r2 h5 k0:a; 0 end r2 k0:a; 0 tell n1 r2 k0:a", 5},
		// Behind leaving.
		{"0 join n1 r1 h5 k0:a; 0 leave n1 r1 f3:0:0 k0:a; 0 end r1 k0:a; 0 tell n1 r1 k0:a", 3}, {"0 join n1 r1 h5 k0:a; 0 leave n1 r1 k0:a; 0 end r2 k0:a; 0 tell n1 r2 k0:a", 3}, {"0 join n1 r1 h5 k0:a; 0 join n2 r1 h3 k0:a; 0 leave n1 r1 k0:a; 0 end r1 k0:a; 0 tell n2 r1 k0:a; 0 tell n1 r1 k0:a", 5},
		{"0 join n1 r1 h5 k0:a; 0 leave n1 r1 k0:a; 0 join n1 r1 h3 k0:a; 0 end r1 k0:a; 0 tell n1 r1 k0:a", 4},
		// Who had something at once, or never joined, was not told.
		{"0 join n1 h1 v7 k0:a; 0 join n2 h6 f3:0:0 k0:a; 0 join n3 h4 f4:0:0 k0:a; 0 end r1 k0:a; 0 tell n1 r1 k0:a; 0 tell n2 r1 k0:a; 0 tell n3 r1 k0:a; 0 tell n4 r1 k0:a", -1},
	})
}

// TestSameLeaves: who leaves a run waits for it (25.2).
func TestSameLeaves(t *testing.T) {
	table(t, audit.Same, []row{
		{"0 join n1 r1 h5 k0:a; 0 leave n1 r1 k0:a", -1}, {"0 join n1 r1 h3 k0:a; 0 leave n1 r1 k0:a", -1}, {"0 join n1 r1 h5 k0:a; 0 join n2 r1 h3 k0:a; 0 leave n2 r1 k0:a; 0 leave n1 r1 k0:a", -1}, {"0 join h5; 0 leave", -1},
		// Who did not join it, by another How, or another run.
		{"0 leave n1 r1 k0:a", 0}, {"0 leave", 0}, {"0 leave n1 r1 k0:a; 0 join n1 r1 h5 k0:a", 0}, {"0 join n1 r1 h5 k0:a; 0 leave n2 r1 k0:a", 1}, {"0 join n1 r1 h5 k0:a; 0 leave n1 r2 k0:a", 1}, {"0 join n1 r1 h5 k0:a; 0 join n2 r2 h5 k0:b; 0 leave n1 r2 k0:a", 2}, {"0 join n1 r1 h5 k0:a; 0 join n2 r2 h5 k0:b; 0 leave n2 r1 k0:a", 2}, {"0 begin r1 k0:a; 0 send r1; 0 leave n1 r1 k0:a", 2},
		{"0 join n1 r1 k0:a; 0 leave n1 r1 k0:a", 1}, {"0 join n1 r1 h1 k0:a; 0 leave n1 r1 k0:a", 1}, {"0 join n1 r1 h2 k0:a; 0 leave n1 r1 k0:a", 1}, {"0 join n1 r1 h4 k0:a; 0 leave n1 r1 k0:a", 1}, {"0 join n1 r1 h6 k0:a; 0 leave n1 r1 k0:a", 1},
		// Who left, or was told, does not any more, unless it joined since.
		{"0 join n1 r1 h5 k0:a; 0 leave n1 r1 k0:a; 0 leave n1 r1 k0:a", 2}, {"0 join n1 r1 h5 k0:a; 0 join n1 r1 h3 k0:a; 0 leave n1 r1 k0:a; 0 leave n1 r1 k0:a", 3}, {"0 join n1 r1 h5 k0:a; 0 leave n1 r1 k0:a; 0 join n1 r1 h3 k0:a; 0 leave n1 r1 k0:a; 0 leave n1 r1 k0:a", 4}, {"0 join n1 r1 h5 k0:a; 0 end r1 k0:a; 0 tell n1 r1 k0:a; 0 leave n1 r1 k0:a", 3}, {"0 join n1 r1 h5 k0:a; 0 end r1 k0:a; 0 tell n1 r1 k0:a; 0 join n1 r1 h3 k0:a; 0 leave n1 r1 k0:a", -1},
		// Be it ahead of the Begin or behind the End; an End alone lets nobody go.
		{"0 join n1 r1 h5 k0:a; 0 begin r1 k0:a; 0 leave n1 r1 k0:a", -1}, {"0 join n1 r1 h5 k0:a; 0 leave n1 r1 k0:a; 0 begin r1 k0:a; 0 leave n1 r1 k0:a", 3}, {"0 begin r1 k0:a; 0 end r1 k0:a; 0 join n1 r1 h3 k0:a; 0 leave n1 r1 k0:a", -1}, {"0 begin r1 k0:a; 0 join n1 r1 h5 k0:a; 0 end r1 k0:a; 0 leave n1 r1 k0:a", -1}, {"0 begin r1 k0:a; 0 join n1 r1 h5 k0:a; 0 cancel r1 k0:a; 0 abandon r1 g1 k0:a; 0 forget g2 k0:a; 0 begin r1 k0:a; 0 leave n1 r1 k0:a", -1},
		// Of two runs for which one waits, each is left, or told, by itself.
		{"0 join n1 r1 h5 k0:a; 0 join n1 r2 h5 k0:b; 0 leave n1 r2 k0:b; 0 leave n1 r1 k0:a", -1}, {"0 join n1 r1 h5 k0:a; 0 join n1 r2 h5 k0:b; 0 end r1 k0:a; 0 tell n1 r1 k0:a; 0 leave n1 r2 k0:b", -1}, {"0 join n1 r1 h5 k0:a; 0 join n1 r2 h5 k0:b; 0 end r1 k0:a; 0 tell n1 r1 k0:a; 0 leave n1 r2 k0:b; 0 leave n1 r1 k0:a", 5},
		// The outcome of leaving, the key and the client are not asked.
		{"0 join c1 n1 r1 h5 k0:a; 0 leave c2 n1 r1 v7 k0:b", -1},
	})
	l := []api.Event{{Kind: api.EventJoin, How: api.HowLed, Run: math.MinInt, Caller: -1}, {Kind: api.EventLeave, Run: math.MinInt, Caller: -1}, {Kind: api.EventLeave, Run: math.MinInt, Caller: -1}}
	answers(t, "any numbers", audit.Same, l, 2)
	for _, how := range []int{math.MinInt, -3, -1, 7, 8, 1<<32 + 3, 1<<32 + 5, math.MaxInt} {
		l[0].How = how
		answers(t, "a How that is none", audit.Same, l, 1)
	}
}

// TestTokensCancel: a token is cancelled once, while its run is in progress and nobody waits for it (25.2).
func TestTokensCancel(t *testing.T) {
	table(t, audit.Tokens, []row{
		{"0 begin r1 k0:a; 0 cancel r1 k0:a", -1}, {"0 begin r1 h1 k0:a; 0 cancel r1 k0:a", -1}, {"0 begin; 0 cancel", -1},
		// One that never began, that begins behind it, that ended.
		{"0 cancel r1 k0:a", 0}, {"0 cancel", 0}, {"0 cancel r1 k0:a; 0 begin r1 k0:a", 0}, {"0 begin r1 k0:a; 0 cancel r2 k0:a", 1}, {"0 begin r1 k0:a; 0 end r1 k0:a; 0 cancel r1 k0:a", 2}, {"0 begin r1 k0:a; 0 begin r2 k0:b; 0 end r1 k0:a; 0 cancel r2 k0:b; 0 cancel r1 k0:a", 4}, {"0 end r1 k0:a; 0 begin r1 k0:a; 0 cancel r1 k0:a", -1}, {"0 begin r1 k0:a; 0 end r1 k0:a; 0 begin r1 k0:a; 0 cancel r1 k0:a", -1},
		// Twice.
		{"0 begin r1 k0:a; 0 cancel r1 k0:a; 0 cancel r1 k0:a", 2}, {"0 begin r1 k0:a; 0 begin r2 k0:b; 0 cancel r1 k0:a; 0 cancel r2 k0:b; 0 cancel r1 k0:a", 4}, {"0 begin r1 k0:a; 0 cancel r1 k0:a; 0 end r1 k0:a; 0 begin r1 k0:a; 0 cancel r1 k0:a", 4},
		// The key and the generation are not asked.
		{"0 begin r1 g1 k0:a; 0 cancel r1 g7 k0:b", -1},
	})
}

// TestTokensWaiters: no token is cancelled while somebody waits (25.2).
func TestTokensWaiters(t *testing.T) {
	table(t, audit.Tokens, []row{
		{"0 begin r1 k0:a; 0 join n1 r1 h5 k0:a; 0 cancel r1 k0:a", 2}, {"0 begin r1 k0:a; 0 join n1 r1 h3 k0:a; 0 cancel r1 k0:a", 2}, {"0 begin r1 k0:a; 0 join r1 h5 k0:a; 0 cancel r1 k0:a", 2},
		{"0 begin r1 k0:a; 0 join n1 r1 h5 k0:a; 0 leave n1 r1 k0:a; 0 cancel r1 k0:a", -1}, {"0 begin r1 k0:a; 0 join n1 r1 h5 k0:a; 0 join n2 r1 h3 k0:a; 0 leave n1 r1 k0:a; 0 cancel r1 k0:a", 4}, {"0 begin r1 k0:a; 0 join n1 r1 h5 k0:a; 0 join n2 r1 h3 k0:a; 0 leave n1 r1 k0:a; 0 leave n2 r1 k0:a; 0 cancel r1 k0:a", -1}, {"0 begin r1 k0:a; 0 join n1 r1 h5 k0:a; 0 tell n1 r1 k0:a; 0 cancel r1 k0:a", -1},
		// A caller who joins twice is one; who joins again, waits again.
		{"0 begin r1 k0:a; 0 join n1 r1 h5 k0:a; 0 join n1 r1 h3 k0:a; 0 leave n1 r1 k0:a; 0 cancel r1 k0:a", -1}, {"0 begin r1 k0:a; 0 join n1 r1 h5 k0:a; 0 leave n1 r1 k0:a; 0 join n1 r1 h3 k0:a; 0 cancel r1 k0:a", 4}, {"0 begin r1 k0:a; 0 join n1 r1 h5 k0:a; 0 tell n1 r1 k0:a; 0 join n1 r1 h3 k0:a; 0 cancel r1 k0:a", 4},
		// Who leaves, or is told, what it does not wait for, is counted for nobody.
		{"0 begin r1 k0:a; 0 join n1 r1 h5 k0:a; 0 leave n2 r1 k0:a; 0 tell n3 r1 k0:a; 0 cancel r1 k0:a", 4}, {"0 begin r1 k0:a; 0 leave n1 r1 k0:a; 0 join n1 r1 h5 k0:a; 0 cancel r1 k0:a", 3}, {"0 begin r1 k0:a; 0 join n1 r1 h5 k0:a; 0 leave n1 r1 k0:a; 0 leave n1 r1 k0:a; 0 join n2 r1 h3 k0:a; 0 cancel r1 k0:a", 5},
		// By another run, or another How.
		{"0 begin r1 k0:a; 0 begin r2 k0:b; 0 join n1 r2 h5 k0:b; 0 cancel r1 k0:a; 0 cancel r2 k0:b", 4}, {"0 begin r1 k0:a; 0 begin r2 k0:b; 0 join n1 r1 h5 k0:a; 0 join n1 r2 h5 k0:b; 0 leave n1 r1 k0:a; 0 cancel r1 k0:a; 0 cancel r2 k0:b", 6}, {"0 begin r1 k0:a; 0 begin r2 k0:b; 0 join n1 r1 h5 k0:a; 0 tell n1 r2 k0:b; 0 cancel r1 k0:a", 4},
		{"0 begin r1 k0:a; 0 join n1 r1 k0:a; 0 join n2 r1 h1 k0:a; 0 join n3 r1 h2 k0:a; 0 join n4 r1 h4 k0:a; 0 join n5 r1 h6 k0:a; 0 cancel r1 k0:a", -1},
		// Who joined ahead of the Begin, or behind the End, waits, too; an End alone lets nobody go.
		{"0 join n1 r1 h5 k0:a; 0 begin r1 k0:a; 0 cancel r1 k0:a", 2}, {"0 join n1 r1 h5 k0:a; 0 leave n1 r1 k0:a; 0 begin r1 k0:a; 0 cancel r1 k0:a", -1}, {"0 begin r1 k0:a; 0 end r1 k0:a; 0 join n1 r1 h5 k0:a; 0 begin r1 k0:a; 0 cancel r1 k0:a", 4}, {"0 begin r1 k0:a; 0 join n1 r1 h5 k0:a; 0 end r1 k0:a; 0 begin r1 k0:a; 0 cancel r1 k0:a", 4}, {"0 begin r1 k0:a; 0 join n1 r1 h5 k0:a; 0 end r1 k0:a; 0 tell n1 r1 k0:a; 0 begin r1 k0:a; 0 cancel r1 k0:a", -1},
	})
}

// TestTokensJoin: who joins a run does so while it is in progress and its token is not cancelled (25.2).
func TestTokensJoin(t *testing.T) {
	table(t, audit.Tokens, []row{
		{"0 begin r1 k0:a; 0 join n1 r1 h3 k0:a; 0 join n2 r1 h3 k0:a", -1}, {"0 join n1 r1 h3 k0:a", 0}, {"0 join h3", 0}, {"0 join n1 r1 h3 k0:a; 0 begin r1 k0:a", 0}, {"0 begin r1 k0:a; 0 join n1 r2 h3 k0:a", 1}, {"0 begin r1 k0:a; 0 begin r2 k0:b; 0 end r2 k0:b; 0 join n1 r1 h3 k0:a; 0 join n2 r2 h3 k0:b", 4},
		{"0 begin r1 k0:a; 0 end r1 k0:a; 0 join n1 r1 h3 k0:a", 2}, {"0 begin r1 k0:a; 0 end r1 k0:a; 0 begin r1 k0:a; 0 join n1 r1 h3 k0:a", -1}, {"0 begin r1 k0:a; 0 end r2 k0:a; 0 join n1 r1 h3 k0:a", -1},
		{"0 begin r1 k0:a; 0 cancel r1 k0:a; 0 join n1 r1 h3 k0:a", 2}, {"0 begin r1 k0:a; 0 begin r2 k0:b; 0 cancel r2 k0:b; 0 join n1 r1 h3 k0:a; 0 join n2 r2 h3 k0:b", 4}, {"0 begin r1 k0:a; 0 cancel r1 k0:a; 0 end r1 k0:a; 0 begin r1 k0:a; 0 join n1 r1 h3 k0:a", 4}, {"0 begin r1 k0:a; 0 abandon r1 g1 k0:a; 0 forget g2 k0:a; 0 join n1 r1 h3 k0:a", -1},
		// By another How nothing is asked of the run.
		{"0 join n1 r1 k0:a; 0 join n1 r1 h1 k0:a; 0 join n1 r1 h2 k0:a; 0 join n1 r1 h4 k0:a; 0 join n1 r1 h5 k0:a; 0 join n1 r1 h6 k0:a", -1}, {"0 begin r1 k0:a; 0 cancel r1 k0:a; 0 join n1 r1 h5 k0:a; 0 end r1 k0:a; 0 join n2 r1 h5 k0:a", -1},
		// The key is not asked, nor what its entry or generation is.
		{"0 begin r1 k0:a; 0 join n1 r1 h3 k0:b", -1},
	})
	for kind := range 13 {
		if kind != api.EventJoin && kind != api.EventCancel {
			answers(t, "another kind", audit.Tokens, []api.Event{{Kind: kind, How: api.HowJoined, Run: 1}}, -1)
		}
	}
}
