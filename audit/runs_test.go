package audit_test

import (
	"math"
	"slices"
	"testing"

	"convoy/api"
	"convoy/audit"
)

// TestOneNumbers: a Begin's number is above those of all Begins ahead (25.1).
func TestOneNumbers(t *testing.T) {
	table(t, audit.One, []row{
		{"0 begin k0:a", -1}, {"0 begin r1 k0:a", -1}, {"0 begin r7 k0:a", -1},
		{"0 begin r1 k0:a; 0 begin r2 k0:b; 0 begin r3 k0:c", -1}, {"0 begin r3 k0:a; 0 begin r7 k0:b; 0 begin r900 k0:c", -1},
		// One that stood ahead, in progress or not, of the same and of another key and generation.
		{"0 begin r1 k0:a; 0 begin r1 k0:a", 1}, {"0 begin r1 k0:a; 0 begin r1 k0:b", 1}, {"0 begin r1 k0:a; 0 begin r1 g1 k0:a", 1},
		{"0 begin r1 k0:a; 0 end r1 k0:a; 0 begin r1 k0:a", 2}, {"0 begin r1 k0:a; 0 end r1 k0:a; 0 begin r1 g1 k0:b", 2},
		{"0 begin k0:a; 0 begin k0:b", 1},
		// One below the greatest, and one between others.
		{"0 begin r2 k0:a; 0 begin r1 k0:b", 1}, {"0 begin r2 k0:a; 0 end r2 k0:a; 0 begin r1 k0:b", 2}, {"0 begin r1 k0:a; 0 begin r3 k0:b; 0 begin r2 k0:c; 0 begin r4 k0:d", 2},
		{"0 begin r5 k0:a; 0 begin r6 k0:b; 0 begin k0:c", 2}, {"0 begin r5 k0:a; 0 begin r6 k0:b; 0 begin r5 k0:c", 2},
		// The numbers of other events are none of Begins.
		{"0 join n1 r9 h5 k0:a; 0 send r9; 0 end r9 k0:a; 0 tell n1 r9 k0:a; 0 cancel r9 k0:a; 0 abandon r9 g1 k0:a; 0 keep r9 k0:a; 0 leave n2 r9 k0:a; 0 begin r1 k0:a", -1},
		{"0 begin r5 k0:a; 0 join n1 r9 h5 k0:a; 0 begin r6 k0:b; 0 join n1 r1 h5 k0:a; 0 begin r5 k0:c", 4},
	})
	// Of the first one no number is asked.
	for _, run := range []int{math.MinInt, math.MinInt + 1, -1, 0, 1, math.MaxInt} {
		l := []api.Event{{Kind: api.EventBegin, Run: run}}
		answers(t, "the first", audit.One, l, -1)
		answers(t, "it again", audit.One, append(l, api.Event{Kind: api.EventBegin, Run: run, Generation: 1}), 1)
		if run < math.MaxInt {
			answers(t, "one above", audit.One, append(l, api.Event{Kind: api.EventBegin, Run: run + 1, Generation: 1}), -1)
			answers(t, "the greatest", audit.One, append(l, api.Event{Kind: api.EventBegin, Run: math.MaxInt, Generation: 1}), -1)
		}
		if run > math.MinInt {
			answers(t, "one below", audit.One, append(l, api.Event{Kind: api.EventBegin, Run: run - 1, Generation: 1}), 1)
			answers(t, "the least", audit.One, append(l, api.Event{Kind: api.EventBegin, Run: math.MinInt, Generation: 1}), 1)
		}
	}
}

// TestOneInProgress: no two runs of one key and generation are in progress (25.1).
func TestOneInProgress(t *testing.T) {
	table(t, audit.One, []row{
		{"0 begin r1 k0:a; 0 begin r2 k0:a", 1}, {"0 begin r1 g5 k0:a; 0 begin r2 g5 k0:a", 1}, {"0 begin r1 k0:a; 0 begin r2 h1 k0:a", 1}, {"0 begin r1; 0 begin r2", 1}, {"0 begin; 0 begin r1", 1},
		// Of another key, or generation.
		{"0 begin r1 k0:a; 0 begin r2 k0:b", -1}, {"0 begin r1 k0:a; 0 begin r2 k1:a", -1}, {"0 begin r1 k0:a; 0 begin r2 g1 k0:a", -1}, {"0 begin r1 g1 k0:a; 0 begin r2 k0:a", -1}, {"0 begin r1 g1 k0:a; 0 begin r2 g2 k0:a; 0 begin r3 g1 k0:b; 0 begin r4 g2 k0:b", -1},
		{"0 begin r1 g1 k0:a; 0 begin r2 g2 k0:a; 0 begin r3 g1 k0:a", 2}, {"0 begin r1 k0:a; 0 begin r2 k0:b; 0 begin r3 k0:a; 0 begin r4 k0:b", 2}, {"0 begin r1 k0:a; 0 begin r2 k0:b; 0 begin r3 k0:b", 2},
		// Behind its End; of other Ends nothing is over.
		{"0 begin r1 k0:a; 0 end r1 k0:a; 0 begin r2 k0:a", -1}, {"0 begin r1 k0:a; 0 end r1 k0:a; 0 begin r2 k0:a; 0 begin r3 k0:a", 3}, {"0 begin r1 k0:a; 0 end r1 k0:a; 0 begin r2 k0:a; 0 end r2 k0:a; 0 begin r3 k0:a", -1},
		{"0 begin r1 k0:a; 0 end r2 k0:a; 0 begin r2 k0:a", 2}, {"0 begin r1 k0:a; 0 begin r2 k0:b; 0 end r2 k0:b; 0 begin r3 k0:a", 3}, {"0 begin r1 k0:a; 0 begin r2 k0:b; 0 end r1 k0:a; 0 begin r3 k0:a", -1}, {"0 begin r1 k0:a; 0 begin r2 k0:b; 0 end r1 k0:a; 0 begin r3 k0:b", 3},
		// A run ends by its number, whatever key and generation its End tells.
		{"0 begin r1 k0:a; 0 end r1 g1 k0:b; 0 begin r2 k0:a", -1}, {"0 begin r1 k0:a; 0 begin r2 k0:b; 0 end r1 k0:b; 0 begin r3 k0:b", 3}, {"0 begin r1 k0:a; 0 begin r2 k0:b; 0 end r1 k0:b; 0 begin r3 k0:a", -1}, {"0 begin r1 k0:a; 0 begin r2 g1 k0:a; 0 end r2 k0:a; 0 begin r3 k0:a", 3},
		// An End without a Begin, or ahead of it, or twice.
		{"0 end r1 k0:a; 0 begin r1 k0:a; 0 begin r2 k0:a", 2}, {"0 begin r1; 0 end r9; 0 begin r2", 2}, {"0 begin r1; 0 end; 0 begin r2", 2}, {"0 begin r1 k0:a; 0 end r1 k0:a; 0 begin r2 k0:a; 0 end r1 k0:a; 0 begin r3 k0:a", 4}, {"0 begin r1 k0:a; 0 end r1 k0:a; 0 end r1 k0:a; 0 begin r2 k0:a", -1},
		// Other events neither begin nor end one.
		{"0 join n1 r1 h5 k0:a; 0 send r1; 0 keep r1 k0:a; 0 begin r2 k0:a", -1}, {"0 begin r1 k0:a; 0 cancel r1 k0:a; 0 abandon r1 g1 k0:a; 0 tell n1 r1 k0:a; 0 forget g2 k0:a; 0 drop k0:a; 0 leave n2 r1 k0:a; 0 begin r2 k0:a", 7},
	})
	for _, generation := range []int{math.MinInt, -1, math.MaxInt} {
		l := []api.Event{{Kind: api.EventBegin, Run: 1, Generation: generation}, {Kind: api.EventBegin, Run: 2}, {Kind: api.EventBegin, Run: 3, Generation: generation}}
		answers(t, "any generation", audit.One, l, 2)
	}
}

// TestGenerationsBegin: a Begin has its key's generation (25.1).
func TestGenerationsBegin(t *testing.T) {
	table(t, audit.Generations, []row{
		{"0 begin r1 k0:a", -1}, {"0 begin r1 g1 k0:a", 0}, {"0 begin", -1}, {"0 begin g1", 0}, {"0 begin r1 h1 k0:a", -1},
		{"0 begin r1 k0:a; 0 begin r1 k0:a; 0 end r1 k0:a; 0 begin r2 k0:a", -1}, {"0 begin r1 k0:a; 0 begin r2 g1 k0:a", 1},
		// Behind an Abandon and a Forget.
		{"0 forget g1 k0:a; 0 begin r1 g1 k0:a", -1}, {"0 forget g1 k0:a; 0 begin r1 k0:a", 1}, {"0 forget g1 k0:a; 0 begin r1 g2 k0:a", 1},
		{"0 abandon r1 g1 k0:a; 0 begin r2 g1 k0:a", -1}, {"0 abandon r1 g1 k0:a; 0 begin r2 k0:a", 1}, {"0 abandon r1 g1 k0:a; 0 begin r2 g2 k0:a", 1},
		{"0 forget g1 k0:a; 0 abandon r1 g2 k0:a; 0 begin r2 g2 k0:a; 0 forget g3 k0:a; 0 begin r3 g3 k0:a; 0 begin r4 g2 k0:a", 5},
		// Of several keys.
		{"0 forget g1 k0:a; 0 begin r1 k0:b; 0 begin r2 g1 k0:a; 0 begin r3 k1:a; 0 begin r4", -1}, {"0 forget g1 k0:a; 0 begin r1 g1 k0:b", 1}, {"0 forget g1 k0:a; 0 begin r1 g1 k1:a", 1}, {"0 forget g1; 0 begin r1 g1; 0 begin r2 k0:a", -1},
		{"0 forget g1 k0:a; 0 abandon r1 g1 k0:b; 0 forget g2 k0:b; 0 begin r2 g2 k0:b; 0 begin r3 g1 k0:a; 0 begin r4 g1 k0:b", 5},
		// Other events tell none.
		{"0 end r1 g1 k0:a; 0 cancel r1 g1 k0:a; 0 begin r2 k0:a", -1}, {"0 end r1 g7 k0:a; 0 cancel r1 g9 k0:a; 0 keep r1 k0:a; 0 drop k0:a; 0 forget g1 k0:a", -1},
	})
	for _, generation := range []int{math.MinInt, -1, math.MaxInt} {
		answers(t, "any generation", audit.Generations, []api.Event{{Kind: api.EventBegin, Run: 1, Generation: generation}}, 0)
	}
}

// TestGenerationsGoOn: an Abandon or a Forget tells its key's generation and 1 (25.1).
func TestGenerationsGoOn(t *testing.T) {
	for _, one := range []string{"forget", "abandon"} {
		for _, other := range []string{"forget", "abandon"} {
			table(t, audit.Generations, []row{
				{"0 " + one + " g1 k0:a", -1}, {"0 " + one + " k0:a", 0}, {"0 " + one + " g2 k0:a", 0}, {"0 " + one + " g1", -1}, {"0 " + one, 0},
				{"0 " + one + " g1 k0:a; 1 " + other + " g2 k0:a", -1}, {"0 " + one + " g1 k0:a; 1 " + other + " g1 k0:a", 1}, {"0 " + one + " g1 k0:a; 1 " + other + " g3 k0:a", 1}, {"0 " + one + " g1 k0:a; 1 " + other + " k0:a", 1},
				{"0 " + one + " g1 k0:a; 1 " + other + " g1 k0:b", -1}, {"0 " + one + " g1 k0:a; 1 " + other + " g2 k0:b", 1}, {"0 " + one + " g1 k0:a; 1 " + other + " g2 k1:a", 1},
				{"0 " + one + " g1 k0:a; 1 " + other + " g2 k0:a; 2 " + one + " g3 k0:a; 2 " + other + " g1 k0:b; 3 " + other + " g4 k0:a; 4 " + one + " g4 k0:a", 5},
			})
		}
		for _, generation := range []int{math.MinInt, math.MinInt + 1, -1, math.MaxInt} {
			kind := map[string]int{"forget": api.EventForget, "abandon": api.EventAbandon}[one]
			answers(t, "any generation", audit.Generations, []api.Event{{Kind: kind, Generation: generation}}, 0)
		}
	}
	// It is by the key that an Abandon tells, not by that of its run's Begin.
	table(t, audit.Generations, []row{{"0 begin r1 k0:a; 0 abandon r1 g1 k0:b; 0 begin r2 k0:a; 0 begin r3 g1 k0:b", -1}})
}

// begins is Begins of so many runs, each of another key.
func begins(n int) []api.Event {
	var l []api.Event
	for run := 1; run <= n; run++ {
		l = append(l, api.Event{Kind: api.EventBegin, Run: run, Key: api.Key{Space: uint16(run)}})
	}
	return l
}

// TestFlightBegins: at most most runs are in progress (25.3).
func TestFlightBegins(t *testing.T) {
	for _, most := range []int{math.MinInt, -2, -1, 0, 1, 2, 3, 7, 20, math.MaxInt} {
		for n := range 12 {
			want := -1
			if n > most {
				want = max(most, 0)
				if n == 0 {
					want = -1
				}
			}
			answers(t, "Begins", flight(most), begins(n), want)
		}
	}
	table(t, flight(2), []row{
		{"0 begin r1 k0:a; 0 begin r2 k0:b; 0 begin r3 k0:c", 2}, {"0 begin r1 k0:a; 0 begin r2 k0:a; 0 begin r3 k0:a", 2},
		{"0 begin r1 k0:a; 0 begin r2 k0:b; 0 end r1 k0:a; 0 begin r3 k0:c; 0 end r2; 0 begin r4 k0:d; 0 begin r5 k0:e", 6},
		{"0 begin r1 k0:a; 0 begin r2 k0:b; 0 end r1 k0:a; 0 end r1 k0:a; 0 begin r3 k0:c; 0 begin r4 k0:d", 5},
		{"0 begin r1 k0:a; 0 begin r2 k0:b; 0 end r3 k0:a; 0 begin r3 k0:a", 3}, {"0 end r3 k0:a; 0 begin r1 k0:a; 0 begin r2 k0:b; 0 begin r3 k0:a", 3},
		// A run that begins twice is one; one that ended may begin again.
		{"0 begin r1 k0:a; 0 begin r2 k0:b; 0 begin r1 k0:c; 0 begin r2 k0:a; 0 begin r3 k0:a", 4}, {"0 begin r1 k0:a; 0 begin r1 k0:a; 0 end r1 k0:a; 0 begin r2 k0:b; 0 begin r3 k0:c; 0 begin r4", 5}, {"0 begin r1 k0:a; 0 end r1 k0:a; 0 begin r1 k0:a; 0 begin r2 k0:b; 0 begin r3 k0:b", 4},
		// What else there is neither begins nor ends one.
		{"0 begin r1 k0:a; 0 begin r2 k0:b; 0 cancel r1 k0:a; 0 abandon r1 g1 k0:a; 0 tell n1 r1 k0:a; 0 keep r1 k0:a; 0 forget g2 k0:a; 0 begin r3 k0:a", 7},
		{"0 begin r1 k0:a; 0 begin r2 k0:b; 0 join n1 r3 h5 k0:a; 0 join n2 r4 h3 k0:a; 0 send r3; 0 send r4; 0 leave n1 r3 k0:a", -1},
	})
}

// TestFlightBusy: busy is told only where just most runs are in progress (25.3).
func TestFlightBusy(t *testing.T) {
	busy := api.Event{Kind: api.EventJoin, How: api.HowBusy, Caller: 1}
	for _, most := range []int{math.MinInt, -1, 0, 1, 2, 3, 5, 9, math.MaxInt} {
		for n := range 10 {
			l := append(begins(n), busy)
			want := len(l) - 1
			switch {
			case n > most && n > 0:
				want = max(most, 0)
			case n == most:
				want = -1
			}
			answers(t, "busy", flight(most), l, want)
			if n <= most {
				// More than most are none, however many of them ended by then.
				l = append(begins(n), api.Event{Kind: api.EventEnd, Run: n}, busy)
				want = len(l) - 1
				if max(n-1, 0) == most {
					want = -1
				}
				answers(t, "busy behind an End", flight(most), l, want)
			}
		}
		for how := range 8 {
			if how != api.HowBusy {
				answers(t, "another How", flight(most), []api.Event{{Kind: api.EventJoin, How: how, Run: 1}}, -1)
			}
		}
		for kind := range 13 {
			if kind != api.EventJoin && kind != api.EventBegin {
				answers(t, "another kind", flight(most), []api.Event{{Kind: kind, How: api.HowBusy, Run: 1}}, -1)
			}
		}
	}
	table(t, flight(1), []row{
		{"0 join n1 h4 k0:b; 0 begin r1 k0:a", 0}, {"0 begin r1 k0:a; 0 join n1 h4 k0:b; 0 join n2 h4 k0:b; 0 end r1 k0:a; 0 join n3 h4 k0:b", 4}, {"0 begin r1 k0:a; 0 begin r1 k0:a; 0 join n1 h4 k0:b", -1}, {"0 end r1 k0:a; 0 begin r1 k0:a; 0 join n1 h4 k0:b", -1},
	})
	// How many may be is what is handed in, not what is there.
	if !slices.Equal([]bool{true, false, true}, []bool{isBroken(flight(0), events(t, sample)), isBroken(flight(2), events(t, sample)), isBroken(flight(3), events(t, sample))}) {
		t.Error("Flight of the sample")
	}
}

func isBroken(x call, l []api.Event) bool {
	_, is := x(l)
	return is
}
