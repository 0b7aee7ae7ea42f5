package fail

import (
	"strconv"
	"strings"

	"convoy/api"
)

// words is what the kinds are called in texts.
var words = [...]string{
	api.FailNone:   "none",
	api.FailLoad:   "load",
	api.FailPanic:  "panic",
	api.FailCancel: "cancel",
	api.FailBusy:   "busy",
	api.FailAbort:  "abort",
}

// Text is a failure's text.
func Text(f api.Fail) string {
	if isNone(f) {
		return words[api.FailNone]
	}
	return word(f.Kind) + " " + strconv.Itoa(f.Code) + " " + strconv.Itoa(f.Run)
}

// word is what a kind is called ahead of a code and a run: the word none stands alone, so kind 0 has a number here.
func word(kind int) string {
	if kind > api.FailNone && kind < len(words) {
		return words[kind]
	}
	return "kind" + strconv.Itoa(kind)
}

// Parse is the failure of a text.
func Parse(s string) (api.Fail, api.Errno) {
	f := read(s)
	// read takes numbers that are written otherwise, and what is no number: Text has one way for each.
	if !mayBe(f) || Text(f) != s {
		return api.Fail{}, api.ErrFail
	}
	return f, api.OK
}

// read is the one failure that s can be the text of, whether it is or not.
func read(s string) api.Fail {
	name, numbers, _ := strings.Cut(s, " ")
	first, second, _ := strings.Cut(numbers, " ")
	code, _ := strconv.Atoi(first)
	run, _ := strconv.Atoi(second)
	return api.Fail{Kind: kindOf(name), Code: code, Run: run}
}

// kindOf is the kind that a word stands for; -1 is none.
func kindOf(name string) int {
	for kind, w := range words {
		if w == name {
			return kind
		}
	}
	return -1
}
