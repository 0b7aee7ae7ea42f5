package recipe_test

import (
	"math/big"
	"math/rand"
	"slices"
	"strings"
	"testing"

	"convoy/api"
	"convoy/recipe"
)

// someNumber is a number by lot: small ones, ends and any.
func someNumber(lot *rand.Rand) int64 {
	switch lot.Intn(6) {
	case 0:
		return int64(lot.Intn(5)) - 2
	case 1:
		return greatest - int64(lot.Intn(3))
	case 2:
		return least + int64(lot.Intn(3))
	case 3:
		return int64(1) << lot.Intn(64)
	}
	return int64(lot.Uint64())
}

// someStep is a step by lot that may be.
func someStep(lot *rand.Rand, ops ...int) api.Step {
	op := ops[lot.Intn(len(ops))]
	switch op {
	case api.StepAdd, api.StepFail, api.StepPanic:
		return api.Step{Op: op, A: someNumber(lot)}
	case api.StepShift:
		return api.Step{Op: op, A: int64(lot.Intn(127)) - 63}
	case api.StepTurn:
		return api.Step{Op: op, A: int64(lot.Intn(64))}
	case api.StepGate:
		return api.Step{Op: op, A: int64(lot.Intn(256))}
	case api.StepSleep:
		return api.Step{Op: op, A: lot.Int63n(maxTime+1) >> lot.Intn(63)}
	case api.StepSkip:
		return api.Step{Op: op, A: int64(lot.Intn(4)), B: 1 + int64(lot.Intn(256))>>lot.Intn(8)}
	}
	return api.Step{Op: op}
}

// allOps is each Op, those that do not end more often than those that do.
var allOps = []int{1, 2, 3, 4, 5, 6, 7, 9, 1, 2, 3, 4, 5, 6, 7, 9, 1, 2, 3, 4, 5, 6, 7, 9, 8, 10, 11, 12}

// someRecipe is a recipe by lot.
func someRecipe(lot *rand.Rand, ops ...int) []api.Step {
	var l []api.Step
	for range lot.Intn(1 + lot.Intn(40)) {
		l = append(l, someStep(lot, ops...))
	}
	return l
}

// someAround is what a run is by lot.
func someAround(lot *rand.Rand) api.Around {
	return api.Around{
		Key:       api.Key{Space: uint16(lot.Uint32()), Name: strings.Repeat("x", lot.Intn(70))},
		Run:       lot.Intn(9),
		Cancelled: lot.Intn(2) == 0,
	}
}

// wrapped is a number of any length as one of 64 bits with a sign.
func wrapped(n *big.Int) int64 {
	round := new(big.Int).Lsh(big.NewInt(1), 64)
	n = new(big.Int).Mod(n, round)
	if n.Bit(63) == 1 {
		n.Sub(n, round)
	}
	return n.Int64()
}

// turned is a number turned bit by bit.
func turned(number, by int64) int64 {
	var out uint64
	for i := range 64 {
		if uint64(number)>>i&1 == 1 {
			out |= 1 << ((i + int(by)) % 64)
		}
	}
	return int64(out)
}

// plain is what the chapter's table tells of a step, with numbers of any length.
func plain(l []api.Step, c api.Cook, x api.Around) (api.Cook, *api.Outcome) {
	value := &api.Outcome{Value: c.Number}
	if c.At == len(l) {
		return api.Cook{}, value
	}
	step, n := l[c.At], big.NewInt(c.Number)
	c.At++
	failure := func(kind int, code int64) (api.Cook, *api.Outcome) {
		return api.Cook{}, &api.Outcome{Fail: api.Fail{Kind: kind, Code: int(code), Run: x.Run}}
	}
	switch forms[step.Op-1].word {
	case "add":
		c.Number = wrapped(n.Add(n, big.NewInt(step.A)))
	case "shift":
		if step.A >= 0 {
			c.Number = wrapped(n.Mul(n, new(big.Int).Lsh(big.NewInt(1), uint(step.A))))
		} else {
			// Div of big rounds down for what is above 0 to divide by.
			c.Number = wrapped(n.Div(n, new(big.Int).Lsh(big.NewInt(1), uint(-step.A))))
		}
	case "key":
		c.Number ^= hash(x.Key)
	case "run":
		c.Number = wrapped(n.Add(n, big.NewInt(int64(x.Run))))
	case "turn":
		c.Number = turned(c.Number, step.A)
	case "gate":
		c.Wait, c.On = 1, step.A
	case "sleep":
		c.Wait, c.On = 2, step.A
	case "heed":
		if x.Cancelled {
			return failure(api.FailAbort, 0)
		}
	case "skip":
		asked := []bool{n.Sign() == 0, n.Sign() < 0, n.Bit(0) == 1, x.Cancelled}
		for left := step.B; left > 0 && asked[step.A] && c.At < len(l); left-- {
			c.At++
		}
	case "answer":
		return api.Cook{}, value
	case "fail":
		return failure(api.FailLoad, step.A)
	case "panic":
		return failure(api.FailPanic, step.A)
	}
	return c, nil
}

// sameStep holds Do against the table, and tells the state and whether it ended.
func sameStep(t *testing.T, l []api.Step, c api.Cook, x api.Around) (api.Cook, api.Outcome, bool) {
	t.Helper()
	want, end := plain(l, c, x)
	got, outcome, over, err := recipe.Do(l, c, x)
	if end == nil {
		end = &api.Outcome{}
	} else if !over {
		t.Fatalf("Do(%v, %v, %v) did not end", l, c, x)
	}
	if got != want || outcome != *end || err != api.OK {
		t.Fatalf("Do(%v, %v, %v): %v, %v, %t, %d, not %v, %v", l, c, x, got, outcome, over, err, want, *end)
	}
	return got, outcome, over
}

// TestByLot: recipes by lot go on as the table tells, step by step, On and Alone too; On does at most one step more than there are (8.2, 8.3, 8.6).
func TestByLot(t *testing.T) {
	lot := rand.New(rand.NewSource(8))
	for range 20000 {
		l, x := someRecipe(lot, allOps...), someAround(lot)
		slept, from := new(big.Int), api.Cook{}
		for ended := false; !ended; {
			c, outcome, over := from, api.Outcome{}, false
			steps := 0
			for !over && c.Wait == api.WaitNone {
				c, outcome, over = sameStep(t, l, c, x)
				steps++
			}
			if steps > len(l)+1 {
				t.Fatalf("%d steps of %v", steps, l)
			}
			gotC, gotO, gotOver, err := recipe.On(l, from, x)
			if gotC != c || gotO != outcome || gotOver != over || err != api.OK {
				t.Fatalf("On(%v, %v, %v): %v, %v, %t, %d, not %v, %v, %t", l, from, x, gotC, gotO, gotOver, err, c, outcome, over)
			}
			if c.Wait == api.WaitSleep {
				slept.Add(slept, big.NewInt(c.On))
			}
			if ended = over; ended {
				want := maxTime
				if slept.Cmp(big.NewInt(maxTime)) < 0 {
					want = slept.Int64()
				}
				alone(t, l, x, outcome, want)
			}
			from = api.Cook{At: c.At, Number: c.Number}
		}
	}
}

// TestAnyState: a step from any state that may be goes on as the table tells, and leads to another one that may be (8.2).
func TestAnyState(t *testing.T) {
	lot := rand.New(rand.NewSource(88))
	for range 50000 {
		l, x := someRecipe(lot, allOps...), someAround(lot)
		c := api.Cook{At: lot.Intn(len(l) + 1), Number: someNumber(lot)}
		got, _, over := sameStep(t, l, c, x)
		if !over && (got.At <= c.At || got.At > len(l)) {
			t.Fatalf("Do(%v, %v, %v): it is at %d", l, c, x, got.At)
		}
	}
}

// TestThereAndBack: Parse of Text is the recipe, Text of Parse is the text (8.6).
func TestThereAndBack(t *testing.T) {
	lot := rand.New(rand.NewSource(888))
	for range 20000 {
		l := someRecipe(lot, allOps...)
		s, at, err := recipe.Text(l)
		if at != 0 || err != api.OK {
			t.Fatalf("Text(%v): %d, %d", l, at, err)
		}
		told(t, l, s)
	}
}

// badWord is a search for the first word of a text that may not stand there, by its words as a list; -1 is none.
func badWord(s string) (int, int) {
	if s == "" {
		return -1, 0
	}
	words, place, count := strings.Split(s, " "), 0, 0
	for i := 0; i < len(words); {
		at := slices.IndexFunc(forms, func(f form) bool { return f.word == words[i] })
		if at < 0 {
			return place, 0
		}
		place += len(words[i]) + 1
		i++
		for n := range forms[at].named {
			if i == len(words) {
				return len(s), 0
			}
			number, ok := new(big.Int).SetString(words[i], 10)
			low, high := forms[at].leastA, forms[at].mostA
			if n == 1 {
				low, high = forms[at].leastB, forms[at].mostB
			}
			if !ok || number.String() != words[i] || number.Cmp(big.NewInt(low)) < 0 || number.Cmp(big.NewInt(high)) > 0 {
				return place, 0
			}
			place += len(words[i]) + 1
			i++
		}
		count++
	}
	return -1, count
}

// TestTextsByLot: of texts of words by lot the same are recipes, and the same places are told, as by a search (8.4, 8.6).
func TestTextsByLot(t *testing.T) {
	lot := rand.New(rand.NewSource(8888))
	words := []string{"add", "shift", "key", "run", "turn", "gate", "sleep", "heed", "skip", "answer", "fail", "panic",
		"0", "1", "2", "3", "63", "-63", "-1", "255", "256", "", "00", "x", "4611686018427387905", "heed", "skip", "1", "2"}
	good := 0
	for range 200000 {
		var l []string
		for range lot.Intn(7) {
			l = append(l, words[lot.Intn(len(words))])
		}
		s := strings.Join(l, " ")
		at, count := badWord(s)
		if at >= 0 {
			noSteps(t, s, at)
			continue
		}
		got, place, err := recipe.Parse(s)
		if len(got) != count || place != 0 || err != api.OK {
			t.Fatalf("Parse(%q): %v, %d, %d", s, got, place, err)
		}
		check(t, got, 0, api.OK)
		told(t, got, s)
		good++
	}
	if good < 1000 {
		t.Errorf("only %d texts were those of recipes", good)
	}
}

// TestBytesByLot: a text with a byte that was altered, put in or taken out is told as by a search (8.4).
func TestBytesByLot(t *testing.T) {
	lot := rand.New(rand.NewSource(88888))
	for range 50000 {
		s, _, _ := recipe.Text(someRecipe(lot, allOps...))
		at := lot.Intn(len(s) + 1)
		b := string(" 0123456789-+adeghiklnprstuwy\n"[lot.Intn(30)])
		switch {
		case lot.Intn(3) == 0 || at == len(s):
			s = s[:at] + b + s[at:]
		case lot.Intn(2) == 0:
			s = s[:at] + b + s[at+1:]
		default:
			s = s[:at] + s[at+1:]
		}
		if at, count := badWord(s); at >= 0 {
			noSteps(t, s, at)
		} else if got, place, err := recipe.Parse(s); len(got) != count || place != 0 || err != api.OK {
			t.Fatalf("Parse(%q): %v, %d, %d", s, got, place, err)
		}
	}
}

// TestSameInEveryRun: a recipe that names neither its run nor its token has the same value in every run (8.6).
func TestSameInEveryRun(t *testing.T) {
	lot := rand.New(rand.NewSource(808))
	for range 5000 {
		l := someRecipe(lot, 1, 2, 3, 5, 6, 7, 9, 10, 1, 2, 3, 5, 6, 7)
		for i := range l {
			if l[i].Op == api.StepSkip && l[i].A == 3 {
				l[i].A = 2
			}
		}
		x := someAround(lot)
		first, slept, _ := recipe.Alone(l, x)
		if first.Fail != (api.Fail{}) {
			t.Fatalf("Alone(%v, %v): %v", l, x, first)
		}
		alone(t, l, api.Around{Key: x.Key, Run: x.Run + 1 + lot.Intn(99), Cancelled: !x.Cancelled}, first, slept)
	}
}

// TestHangsOnNothingElse: the same arguments have the same answer, whatever was asked between (8.6, R5).
func TestHangsOnNothingElse(t *testing.T) {
	lot := rand.New(rand.NewSource(880))
	for range 2000 {
		l, x := someRecipe(lot, allOps...), someAround(lot)
		outcome, slept, _ := recipe.Alone(l, x)
		recipe.Alone(someRecipe(lot, allOps...), someAround(lot))
		recipe.Alone(nil, someAround(lot))
		alone(t, slices.Clone(l), x, outcome, slept)
	}
}

// TestSums: Gates and Longest of steps by lot, of any Op and any numbers, are those of a search (8.5).
func TestSums(t *testing.T) {
	lot := rand.New(rand.NewSource(8008))
	for range 5000 {
		var l []api.Step
		for range lot.Intn(12) {
			l = append(l, api.Step{Op: 5 + lot.Intn(4), A: someNumber(lot) >> lot.Intn(64), B: someNumber(lot)})
		}
		has, sum := map[int]bool{}, new(big.Int)
		for _, step := range l {
			if step.Op == 6 {
				has[int(step.A)] = true
			}
			if step.Op == 7 && step.A > 0 {
				sum.Add(sum, big.NewInt(step.A))
			}
		}
		var want []int
		for gate := range has {
			want = append(want, gate)
		}
		slices.Sort(want)
		gates(t, l, want...)
		if sum.Cmp(big.NewInt(maxTime)) > 0 {
			longest(t, l, maxTime, false)
		} else {
			longest(t, l, sum.Int64(), true)
		}
	}
}
