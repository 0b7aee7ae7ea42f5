package client_test

import (
	"math/rand"
	"slices"
	"strings"
	"testing"

	"convoy/api"
	"convoy/client"
)

// TestExample: the example of the chapter.
func TestExample(t *testing.T) {
	told(t, []api.Do{{Op: api.DoSleep, N: 5}}, "sleep 5\n")
	noProgram(t, "sleep 05\n", 0)
	told(t, nil, "")
	noProgram(t, "sleep 5", 0)
}

// saw counts what was met by lot.
type saw map[string]int

// enough looks that each of some things was met often.
func (w saw) enough(t *testing.T, times int, what ...string) {
	t.Helper()
	for _, one := range what {
		if w[one] < times {
			t.Errorf("%s: met %d times", one, w[one])
		}
	}
}

// someKey is a key by lot, of few or of many kinds.
func someKey(lot *rand.Rand) api.Key {
	if lot.Intn(2) == 0 {
		return kinds[lot.Intn(len(kinds))]
	}
	name := make([]byte, lot.Intn(8))
	for i := range name {
		name[i] = "ab 0159:\n\xff\x00 "[lot.Intn(12)]
	}
	return api.Key{Space: uint16(lot.Intn(1 << lot.Intn(17))), Name: string(name)}
}

// someDo is a thing to do by lot, which may be.
func someDo(lot *rand.Rand) api.Do {
	f := forms[lot.Intn(len(forms))]
	do := api.Do{Op: f.op}
	if f.key {
		do.Key = someKey(lot)
	}
	if f.n {
		do.N = f.least + lot.Int63n(f.greatest-f.least+1)>>lot.Intn(20)
	}
	if f.slot {
		do.Slot = lot.Intn(16)
	}
	return do
}

// mayBeByHand is the table of the chapter.
func mayBeByHand(do api.Do) bool {
	if do.Op < 1 || do.Op > 9 {
		return false
	}
	f := forms[do.Op-1]
	if !f.key && do.Key != (api.Key{}) || len(do.Key.Name) > 64 {
		return false
	}
	if do.N < f.least || do.N > f.greatest {
		return false
	}
	return f.slot && do.Slot >= 0 && do.Slot <= 15 || do.Slot == 0
}

// TestTextThere: Parse of Text is the program, by lot; and what may not be, or has no line, is told (21.1, 21.5).
func TestTextThere(t *testing.T) {
	w := saw{}
	for seed := range int64(10000) {
		lot := rand.New(rand.NewSource(seed))
		var l []api.Do
		for range lot.Intn(1 + lot.Intn(12)) {
			do := someDo(lot)
			if lot.Intn(30) == 0 {
				other := someDo(lot)
				do = []api.Do{{Op: other.Op, Key: do.Key, N: do.N, Slot: do.Slot}, {Op: do.Op, Key: other.Key, N: do.N, Slot: do.Slot}, {Op: do.Op, Key: do.Key, N: other.N, Slot: do.Slot}, {Op: do.Op, Key: do.Key, N: do.N, Slot: other.Slot}}[lot.Intn(4)]
			}
			l = append(l, do)
		}
		wrong := slices.IndexFunc(l, func(do api.Do) bool { return !mayBeByHand(do) })
		line := slices.IndexFunc(l, func(do api.Do) bool { return strings.Contains(do.Key.Name, "\n") })
		switch {
		case wrong >= 0:
			w["wrong"]++
			checked(t, l, wrong, api.ErrDo)
			noText(t, l, wrong, api.ErrDo)
		case line >= 0:
			w["a line"]++
			checked(t, l, 0, api.OK)
			noText(t, l, line, api.ErrWord)
		default:
			w["told"]++
			checked(t, l, 0, api.OK)
			told(t, l, textByHand(l))
		}
	}
	w.enough(t, 100, "wrong", "a line", "told")
}

// spoilText changes a text a little, by lot.
func spoilText(lot *rand.Rand, s string) string {
	at := lot.Intn(len(s) + 1)
	piece := []string{"", " ", "\n", "0", "1", "9", "-", "+", ":", "a", "call ", "start 0:a ", "sleep 5\n", "\x00", "\xff", "  ", "\n\n", "15", "1024", "4611686018427387904", "65535:"}[lot.Intn(21)]
	behind := min(len(s), at+lot.Intn(3))
	return s[:at] + piece + s[behind:]
}

// TestParseLikePlain holds Parse against one by hand, of texts that are nearly right; what it reads has that text (21.1, 21.5).
func TestParseLikePlain(t *testing.T) {
	w := saw{}
	for seed := range int64(40000) {
		lot := rand.New(rand.NewSource(seed))
		var l []api.Do
		for range 1 + lot.Intn(4) {
			l = append(l, someDo(lot))
		}
		s := textByHand(l)
		for range lot.Intn(3) {
			s = spoilText(lot, s)
		}
		want, wantAt, wrong := parsedByHand(s)
		got, at, err := client.Parse(s)
		if !slices.Equal(got, want) || at != wantAt || err != wrong {
			t.Fatalf("Parse(%q): %v, %d, %d, not %v, %d, %d", s, got, at, err, want, wantAt, wrong)
		}
		if err != api.OK {
			w["wrong"]++
			if at > 0 {
				w["wrong later"]++
			}
			continue
		}
		w["right"]++
		if !slices.Equal(got, l) {
			w["another one"]++
		}
		if again, _, err := client.Text(got); again != s || err != api.OK {
			t.Fatalf("Text of Parse(%q): %q, %d", s, again, err)
		}
	}
	w.enough(t, 1000, "wrong", "wrong later", "right", "another one")
}

// TestParseEachByte: every short change of each line, held against one by hand (21.1).
func TestParseEachByte(t *testing.T) {
	for _, line := range []string{"call 0:a\n", "start 10:a b 15\n", "await 7\n", "forget 65535:x\n", "cancel 1024\n", "open 255\n", "shut 0\n", "sleep 4611686018427387904\n", "token 10\n"} {
		for at := range len(line) + 1 {
			for b := range 256 {
				texts := []string{line[:at] + string([]byte{byte(b)}) + line[at:]}
				if at < len(line) {
					texts = append(texts, line[:at]+string([]byte{byte(b)})+line[at+1:], line[:at]+line[at+1:])
				}
				for _, s := range texts {
					want, wantAt, wrong := parsedByHand(s)
					if got, at, err := client.Parse(s); !slices.Equal(got, want) || at != wantAt || err != wrong {
						t.Fatalf("Parse(%q): %v, %d, %d, not %v, %d, %d", s, got, at, err, want, wantAt, wrong)
					}
				}
			}
		}
	}
}

// pair is a client, and a plain one that should be the same.
type pair struct {
	c *client.Client
	p *plain
}

// someGot is what a client had, by lot, which may be mostly.
func someGot(lot *rand.Rand) api.Got {
	g := api.Got{Place: lot.Intn(5), How: lot.Intn(7), Outcome: rightOutcomes[lot.Intn(len(rightOutcomes))], At: int64(lot.Intn(100))}
	switch lot.Intn(12) {
	case 0:
		g.Place = lot.Intn(300) - 1
	case 1:
		g.How = lot.Intn(10) - 1
	case 2:
		g.At = []int64{-1, 0, 1 << 62, 1<<62 + 1}[lot.Intn(4)]
	case 3:
		g.Outcome = wrongOutcomes[lot.Intn(len(wrongOutcomes))]
	}
	return g
}

// slotBy does something to a slot by lot.
func (x pair) slotBy(t *testing.T, lot *rand.Rand, w saw) {
	t.Helper()
	slot, caller := lot.Intn(18)-1, lot.Intn(4)
	if lot.Intn(2) == 0 {
		slot = lot.Intn(3)
	}
	switch lot.Intn(3) {
	case 0:
		if got, want := x.c.Put(slot, caller), x.p.put(slot, caller); got != want {
			t.Fatalf("Put(%d, %d): %d, not %d", slot, caller, got, want)
		}
	case 1:
		g := someGot(lot)
		want := x.p.fill(slot, caller, g)
		if got := x.c.Fill(slot, caller, g); got != want {
			t.Fatalf("Fill(%d, %d): %t", slot, caller, got)
		}
		if want {
			w["filled"]++
		}
	case 2:
		want, wantWhat, wrong := x.p.take(slot)
		if g, what, err := x.c.Take(slot); g != want || what != wantWhat || err != wrong {
			t.Fatalf("Take(%d): %v, %d, %d, not %v, %d, %d", slot, g, what, err, want, wantWhat, wrong)
		}
		w[[]string{"no slot", "empty", "pending", "full"}[wantWhat]]++
	}
}

// doBy does something to a client by lot.
func (x pair) doBy(t *testing.T, lot *rand.Rand, w saw) {
	t.Helper()
	switch lot.Intn(12) {
	case 0:
		token := lot.Intn(1030) - 2
		if got, want := x.c.Use(token), x.p.use(token); got != want {
			t.Fatalf("Use(%d): %d, not %d", token, got, want)
		}
	case 1:
		want := x.p.goOn()
		if got := x.c.Go(); got != want {
			t.Fatalf("Go: %t", got)
		}
		if !want {
			w["at the end"]++
		}
	case 2, 3:
		g := someGot(lot)
		want := x.p.had(g)
		if got := x.c.Had(g); got != want {
			t.Fatalf("Had(%v): %d, not %d", g, got, want)
		}
		w[[]string{"had", "refused"}[want]]++
	default:
		x.slotBy(t, lot, w)
	}
	want, wantAt, wantMore := x.p.next()
	if do, at, more := x.c.Next(); do != want || at != wantAt || more != wantMore || x.c.Token() != x.p.token || !slices.Equal(x.c.Log(), x.p.log) {
		t.Fatalf("Next: %v, %d, %t, not %v, %d, %t, or the token or the log", do, at, more, want, wantAt, wantMore)
	}
}

// TestLikePlain holds clients against plain ones, by lot, with clones (21.2 to 21.4).
func TestLikePlain(t *testing.T) {
	w := saw{}
	for seed := range int64(1500) {
		lot := rand.New(rand.NewSource(seed))
		var all []pair
		for range 3 {
			var l []api.Do
			for range lot.Intn(8) {
				l = append(l, someDo(lot))
			}
			all = append(all, pair{fresh(t, l...), newPlain(l)})
		}
		for range 100 {
			i := lot.Intn(3)
			if lot.Intn(30) == 0 {
				j := lot.Intn(3)
				all[i] = pair{all[j].c.Clone(), all[j].p.clone()}
			}
			all[i].doBy(t, lot, w)
		}
	}
	w.enough(t, 300, "filled", "no slot", "empty", "pending", "full", "at the end", "had", "refused")
}

// TestGoesOnAsOften: a client goes on as often as it has things to do, whatever else is done to it (21.5).
func TestGoesOnAsOften(t *testing.T) {
	for n := range 257 {
		lot := rand.New(rand.NewSource(int64(n)))
		c := fresh(t, sleeps(n)...)
		times := 0
		for range 3 * n {
			switch lot.Intn(4) {
			case 0:
				c.Put(lot.Intn(16), 1+lot.Intn(3))
			case 1:
				c.Had(api.Got{Place: lot.Intn(n)})
			case 2:
				c = c.Clone()
			case 3:
				c.Use(lot.Intn(1025))
			}
		}
		for c.Go() {
			times++
		}
		if times != n {
			t.Fatalf("went on %d times, not %d", times, n)
		}
		over(t, c)
	}
}

// TestLarge: texts of very many lines, and of very long ones, are read in one go (R1).
func TestLarge(t *testing.T) {
	if got, at, err := client.Parse(strings.Repeat("start 0:a b 15\n", 1000000)); len(got) != 0 || at != 256 || err != api.ErrMany {
		t.Fatal(len(got), at, err)
	}
	for _, s := range []string{strings.Repeat("a", 10000000), strings.Repeat(" ", 10000000), "call 0:" + strings.Repeat("a ", 5000000), "start 0:" + strings.Repeat("a ", 5000000), "sleep " + strings.Repeat("1", 10000000), "start 0:a " + strings.Repeat("1", 10000000), "call " + strings.Repeat("1", 10000000) + ":a", strings.Repeat("\n", 10000000)} {
		noProgram(t, s+"\n", 0)
	}
	noProgram(t, strings.Repeat("sleep 5\n", 1000000)+"sleep 5", 1000000)
	// A log has no bound of its own.
	c := fresh(t, sleeps(1)...)
	for i := range 100000 {
		if err := c.Had(api.Got{At: int64(i)}); err != api.OK {
			t.Fatal(err)
		}
	}
	for i, g := range c.Log() {
		if g.At != int64(i) {
			t.Fatalf("at %d: %v", i, g)
		}
	}
}
