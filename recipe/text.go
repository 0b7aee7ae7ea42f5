package recipe

import (
	"strconv"
	"strings"

	"convoy/api"
)

const blank = " "

// Text tells a recipe as a text, or the place at which it may not be (8.4).
func Text(l []api.Step) (string, int, api.Errno) {
	if at, err := Check(l); err != api.OK {
		return "", at, err
	}
	var words []string
	for _, step := range l {
		words = append(words, wordsOf(step)...)
	}
	return strings.Join(words, blank), 0, api.OK
}

// wordsOf is the words of a step that may be.
func wordsOf(s api.Step) []string {
	is := kinds[s.Op]
	words := []string{is.word}
	numbers := [2]int64{s.A, s.B}
	for i := range is.named {
		words = append(words, strconv.FormatInt(numbers[i], 10))
	}
	return words
}

// Parse tells the steps of a text, or the place at which it is none (8.4).
func Parse(s string) ([]api.Step, int, api.Errno) {
	var steps []api.Step
	many := false
	// A text of no byte has no word, not an empty one.
	r := reader{text: s, over: s == ""}
	for !r.over {
		step, ok := r.step()
		if !ok {
			return nil, r.at, api.ErrStep
		}
		// What is too much is read, too, as a word that may not stand there is told ahead of it.
		if len(steps) == api.MaxSteps {
			many = true
			continue
		}
		steps = append(steps, step)
	}
	if many {
		return nil, api.MaxSteps, api.ErrMany
	}
	return steps, 0, api.OK
}

// reader goes over a text, word by word.
type reader struct {
	text string
	at   int  // where the last word that was asked for begins, or should
	next int  // where the one behind it begins
	over bool // there is none behind it
}

// word takes the next word, which may be empty; false, if there is none.
func (r *reader) word() (string, bool) {
	if r.over {
		r.at = len(r.text)
		return "", false
	}
	word, _, more := strings.Cut(r.text[r.next:], blank)
	r.at = r.next
	r.next += len(word) + len(blank)
	r.over = !more
	return word, true
}

// step takes the next step; false, if what stands there, at r.at, may not.
func (r *reader) step() (api.Step, bool) {
	word, _ := r.word()
	op, known := opOf(word)
	if !known {
		return api.Step{}, false
	}
	var numbers [2]int64
	for i := range kinds[op].named {
		n, ok := r.number()
		if !ok || !kinds[op].may[i].has(n) {
			return api.Step{}, false
		}
		numbers[i] = n
	}
	return api.Step{Op: op, A: numbers[0], B: numbers[1]}, true
}

// number takes the next word, if it is a number as Text writes it.
func (r *reader) number() (int64, bool) {
	word, ok := r.word()
	if !ok {
		return 0, false
	}
	n, err := strconv.ParseInt(word, 10, 64)
	// Numbers are read with a plus and with zeros ahead, too: Text has one way for each.
	return n, err == nil && strconv.FormatInt(n, 10) == word
}

// opOf is the Op that a word stands for.
func opOf(word string) (int, bool) {
	for op := api.StepAdd; op <= api.StepPanic; op++ {
		if kinds[op].word == word {
			return op, true
		}
	}
	return 0, false
}
