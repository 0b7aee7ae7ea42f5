package recipe_test

import (
	"slices"
	"strconv"
	"strings"
	"testing"

	"convoy/api"
	"convoy/recipe"
)

// told holds a text against steps, there and back.
func told(t *testing.T, l []api.Step, want string) {
	t.Helper()
	if got, at, err := recipe.Text(l); got != want || at != 0 || err != api.OK {
		t.Fatalf("Text(%v): %q, %d, %d, not %q", l, got, at, err, want)
	}
	if got, at, err := recipe.Parse(want); !slices.Equal(got, l) || at != 0 || err != api.OK {
		t.Fatalf("Parse(%q): %v, %d, %d, not %v", want, got, at, err, l)
	}
}

// noText holds the place and the error of Text against others.
func noText(t *testing.T, l []api.Step, wantAt int, want api.Errno) {
	t.Helper()
	if got, at, err := recipe.Text(l); got != "" || at != wantAt || err != want {
		t.Fatalf("Text(%v): %q, %d, %d, not %d, %d", l, got, at, err, wantAt, want)
	}
}

// noSteps tells that a text is none, and where it goes wrong.
func noSteps(t *testing.T, s string, wantAt int) {
	t.Helper()
	if got, at, err := recipe.Parse(s); len(got) != 0 || at != wantAt || err != api.ErrStep {
		t.Fatalf("Parse(%q): %v, %d, %d, not the place %d", s, got, at, err, wantAt)
	}
}

// TestText: of none, of each step, and of several (8.4).
func TestText(t *testing.T) {
	told(t, nil, "")
	told(t, []api.Step{}, "")
	for _, row := range []struct {
		step api.Step
		text string
	}{
		{api.Step{Op: api.StepAdd, A: 5}, "add 5"},
		{api.Step{Op: api.StepAdd}, "add 0"},
		{api.Step{Op: api.StepAdd, A: -1}, "add -1"},
		{api.Step{Op: api.StepAdd, A: greatest}, "add 9223372036854775807"},
		{api.Step{Op: api.StepAdd, A: least}, "add -9223372036854775808"},
		{api.Step{Op: api.StepShift, A: -63}, "shift -63"},
		{api.Step{Op: api.StepShift, A: 63}, "shift 63"},
		{api.Step{Op: api.StepShift}, "shift 0"},
		{api.Step{Op: api.StepKey}, "key"},
		{api.Step{Op: api.StepRun}, "run"},
		{api.Step{Op: api.StepTurn}, "turn 0"},
		{api.Step{Op: api.StepTurn, A: 63}, "turn 63"},
		{api.Step{Op: api.StepGate}, "gate 0"},
		{api.Step{Op: api.StepGate, A: 255}, "gate 255"},
		{api.Step{Op: api.StepSleep}, "sleep 0"},
		{api.Step{Op: api.StepSleep, A: maxTime}, "sleep 4611686018427387904"},
		{api.Step{Op: api.StepHeed}, "heed"},
		{api.Step{Op: api.StepSkip, B: 1}, "skip 0 1"},
		{api.Step{Op: api.StepSkip, A: 3, B: 256}, "skip 3 256"},
		{api.Step{Op: api.StepAnswer}, "answer"},
		{api.Step{Op: api.StepFail, A: -7}, "fail -7"},
		{api.Step{Op: api.StepFail, A: greatest}, "fail 9223372036854775807"},
		{api.Step{Op: api.StepPanic, A: 100}, "panic 100"},
		{api.Step{Op: api.StepPanic, A: least}, "panic -9223372036854775808"},
	} {
		told(t, []api.Step{row.step}, row.text)
		told(t, []api.Step{row.step, row.step}, row.text+" "+row.text)
		told(t, []api.Step{{Op: api.StepKey}, row.step, {Op: api.StepSkip, A: 2, B: 3}}, "key "+row.text+" skip 2 3")
	}
}

// TestTextEach: each step that may be has a text that is its own (8.4).
func TestTextEach(t *testing.T) {
	l := good()
	var words []string
	for _, step := range l {
		f := forms[step.Op-1]
		words = append(words, f.word)
		for i, n := range []int64{step.A, step.B} {
			if i < f.named {
				words = append(words, strconv.FormatInt(n, 10))
			}
		}
	}
	told(t, l, strings.Join(words, " "))
}

// TestTextLong: as many steps as there may be have a text, and one more has none (8.4).
func TestTextLong(t *testing.T) {
	for _, n := range []int{255, most} {
		told(t, slices.Repeat([]api.Step{{Op: api.StepHeed}}, n), strings.Repeat("heed ", n-1)+"heed")
		told(t, slices.Repeat([]api.Step{{Op: api.StepSkip, A: 1, B: 256}}, n), strings.Repeat("skip 1 256 ", n-1)+"skip 1 256")
	}
	for _, n := range []int{most + 1, most + 2, 2 * most, 40000} {
		noText(t, adds(n), most, api.ErrMany)
		noText(t, make([]api.Step, n), most, api.ErrMany)
		for _, step := range []string{"heed", "skip 1 256", "add -1"} {
			s := strings.Repeat(step+" ", n-1) + step
			if got, at, err := recipe.Parse(s); len(got) != 0 || at != most || err != api.ErrMany {
				t.Fatalf("Parse of %d times %s: %v, %d, %d", n, step, got, at, err)
			}
			// A word that may not stand there is told ahead of there being too many.
			noSteps(t, s+" ", len(s)+1)
			noSteps(t, s+" nothing", len(s)+1)
			noSteps(t, s+" add", len(s)+4)
			noSteps(t, s+" gate 256 heed", len(s)+6)
			noSteps(t, "x"+s, 0)
		}
	}
}

// TestTextWrong: a step that may not be has no text: its place is told (8.4).
func TestTextWrong(t *testing.T) {
	for _, step := range bad() {
		noText(t, []api.Step{step}, 0, api.ErrStep)
		noText(t, append(adds(3), step, api.Step{}), 3, api.ErrStep)
		noText(t, append(adds(most-1), step), most-1, api.ErrStep)
	}
}

// TestParseBlanks: a blank too many is an empty word, which may stand nowhere (8.4).
func TestParseBlanks(t *testing.T) {
	for s, at := range map[string]int{
		" ": 0, "  ": 0, " add 1": 0, "  add 1": 0, " heed": 0, " x": 0,
		"add  1": 4, "add   1": 4, "heed  heed": 5, "heed  ": 5, "skip  0 1": 5, "skip 0  1": 7, "add 1  heed": 6, "add 1  x": 6,
		"add 1 ": 6, "add 1  ": 6, "heed ": 5, "skip 0 1 ": 9, "key run ": 8,
		"add ": 4, "add  ": 4, "skip ": 5, "skip 0 ": 7, "skip  ": 5,
		"add\t1": 0, "add 1\theed": 4, "add 1\n": 4, "\nadd 1": 0, "heed\n": 0, "heed \n": 5, "add\u00a01": 0, "add \u00a01": 4, "heed\x00": 0, "add 1\x00": 4,
	} {
		noSteps(t, s, at)
	}
}

// TestParseWords: a word that is no step's is told where it begins (8.4).
func TestParseWords(t *testing.T) {
	for s, at := range map[string]int{
		"x": 0, "Add 1": 0, "ADD 1": 0, "ad 1": 0, "addd 1": 0, "add1": 0, "1": 0, "-1": 0, "0": 0, "+": 0, "none": 0,
		"heed x": 5, "heed 1": 5, "key 0": 4, "run 0": 4, "heed 0": 5, "answer 0": 7, "answer -": 7, "key run heed answer y": 20,
		"add 1 2": 6, "shift 1 0": 8, "skip 0 1 2": 9, "fail 1 0": 7, "panic 1 0": 8, "gate 1 0": 7, "sleep 1 0": 8, "turn 1 0": 7,
		"add 1 x add y": 6, "heed \xff": 5, "sle\x00ep 1": 0, "wait 1": 0, "\x00": 0, "answeranswer": 0,
	} {
		noSteps(t, s, at)
	}
}

// TestParseNumbers: a number is written in one way alone, and its step must be one that may be with it (8.4).
func TestParseNumbers(t *testing.T) {
	for _, word := range []string{
		"+1", "-0", "+0", "00", "01", "-01", "007", "--1", "-", "+", "x", "1x", "x1", "0x1", "1_0", "1.0", "1e3", "٣", "1-", "- 1", "1,", "true", "add", "heed", "'1'",
		"9223372036854775808", "-9223372036854775809", "18446744073709551615", "18446744073709551616", "18446744073709551617",
		"99999999999999999999", "-99999999999999999999", "0000000000000000000001", strings.Repeat("1", 1000), strings.Repeat("0", 1000), "-" + strings.Repeat("9", 1000),
	} {
		for _, f := range forms {
			if f.named > 0 {
				noSteps(t, f.word+" "+word, len(f.word)+1)
				noSteps(t, "heed "+f.word+" "+word+" nothing", len(f.word)+6)
			}
		}
		noSteps(t, "skip 0 "+word, 7)
		noSteps(t, "skip "+word+" 1", 5)
		noSteps(t, "skip 4 "+word, 5)
	}
}

// TestParseOutside: a number with which its step may not be is told where it begins, A ahead of B (8.4).
func TestParseOutside(t *testing.T) {
	for _, f := range forms {
		if f.named == 0 {
			continue
		}
		for _, a := range outside(f.leastA, f.mostA) {
			s := f.word + " " + strconv.FormatInt(a, 10)
			for _, behind := range []string{"", " ", " 1", " 0", " x", " 257", " heed"} {
				noSteps(t, s+behind, len(f.word)+1)
				noSteps(t, "add -12 "+s+behind, len(f.word)+9)
			}
		}
	}
	for _, b := range outside(1, 256) {
		for _, a := range []string{"0", "1", "2", "3"} {
			noSteps(t, "skip "+a+" "+strconv.FormatInt(b, 10), 7)
			noSteps(t, "run skip "+a+" "+strconv.FormatInt(b, 10)+" heed", 11)
		}
	}
}

// TestParseMissing: where the text ends and a number must stand, its length is told (8.4).
func TestParseMissing(t *testing.T) {
	for _, f := range forms {
		if f.named > 0 {
			noSteps(t, f.word, len(f.word))
			noSteps(t, "heed "+f.word, len(f.word)+5)
		}
	}
	noSteps(t, "skip 0", 6)
	noSteps(t, "skip 3", 6)
	noSteps(t, "skip 4", 5)
	noSteps(t, "skip", 4)
	noSteps(t, "add 1 add", 9)
	noSteps(t, "add add", 4)
	noSteps(t, "add heed", 4)
	noSteps(t, "skip 1 skip", 7)
}

// TestTextExamples: the chapter's second example.
func TestTextExamples(t *testing.T) {
	told(t, []api.Step{{Op: api.StepAdd, A: -1}, {Op: api.StepSkip, A: 0, B: 2}}, "add -1 skip 0 2")
	noSteps(t, "add  1", 4)
	noSteps(t, "add", 3)
	noSteps(t, "gate 07", 5)
}
