package client

import (
	"strconv"
	"strings"

	"convoy/api"
	"convoy/key"
)

const (
	blank = " "
	end   = "\n" // of a line
)

// Text tells a program as a text, or the place at which it has none (21.1).
func Text(l []api.Do) (string, int, api.Errno) {
	if at, err := Check(l); err != api.OK {
		return "", at, err
	}
	var text strings.Builder
	for at, do := range l {
		// Its line would be two.
		if strings.Contains(do.Key.Name, end) {
			return "", at, api.ErrWord
		}
		text.WriteString(lineOf(do) + end)
	}
	return text.String(), 0, api.OK
}

// lineOf is the words of a thing to do that may be.
func lineOf(do api.Do) string {
	is := kinds[do.Op]
	line := is.word
	if is.key {
		// A key that may be has a text.
		text, _ := key.Text(do.Key)
		line += blank + text
	}
	if is.numbers.named() {
		line += blank + strconv.FormatInt(do.N, 10)
	}
	if is.slots.named() {
		line += blank + strconv.Itoa(do.Slot)
	}
	return line
}

// Parse tells the program of a text, or the number of the first line that is none (21.1).
func Parse(s string) ([]api.Do, int, api.Errno) {
	var program []api.Do
	lines := 0
	for s != "" {
		line, rest, ended := strings.Cut(s, end)
		do, ok := doOf(line)
		if !ended || !ok {
			return nil, lines, api.ErrWord
		}
		// What is too much is read, too, as a line that is none is told ahead of it.
		if lines < api.MaxSteps {
			program = append(program, do)
		}
		lines++
		s = rest
	}
	if lines > api.MaxSteps {
		return nil, api.MaxSteps, api.ErrMany
	}
	return program, 0, api.OK
}

// doOf is the thing to do whose line that is. It takes whatever it can read there: the line of that tells whether it was right.
func doOf(line string) (api.Do, bool) {
	word, rest, _ := strings.Cut(line, blank)
	do := api.Do{Op: opOf(word)}
	is := kinds[do.Op]
	// The last blank, as a key's name may have some, and a number has none.
	cut := strings.LastIndex(rest, blank)
	n, _ := strconv.ParseInt(rest[cut+1:], 10, 64)
	if is.numbers.named() {
		do.N = n
	}
	if is.slots.named() {
		do.Slot = int(n)
		rest = rest[:max(cut, 0)]
	}
	if is.key {
		do.Key, _, _ = key.Parse(rest)
	}
	if !mayBe(do) || lineOf(do) != line {
		return api.Do{}, false
	}
	return do, true
}

// opOf is the Op that a word stands for, or 0, which is none.
func opOf(word string) int {
	for op := api.DoCall; op <= api.DoToken; op++ {
		if kinds[op].word == word {
			return op
		}
	}
	return 0
}
