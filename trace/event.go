package trace

import (
	"strings"

	"convoy/api"
	"convoy/fail"
	"convoy/key"
	"convoy/tick"
)

// kind is what the events of one kind are called, and what they name, by the letters of a line's parts.
type kind struct{ word, named string }

// kinds is the kind of each number; none is at 0, as that is no kind.
var kinds = [...]kind{
	api.EventJoin:    {"join", "cnrhvk"},
	api.EventBegin:   {"begin", "rghk"},
	api.EventSend:    {"send", "r"},
	api.EventTell:    {"tell", "cnrvk"},
	api.EventEnd:     {"end", "rgvk"},
	api.EventCancel:  {"cancel", "rgk"},
	api.EventAbandon: {"abandon", "rgk"},
	api.EventForget:  {"forget", "cgk"},
	api.EventKeep:    {"keep", "rvk"},
	api.EventDrop:    {"drop", "k"},
	api.EventLeave:   {"leave", "cnrvk"},
}

const (
	// numberLetters stand for Client, Caller, Run, Generation and How, in the order of a line.
	numberLetters = "cnrgh"
	valueLetter   = 'v' // in named it stands for the failure, too
	failLetter    = 'f'
	keyLetter     = 'k'
)

// numbersOf is where an event has what numberLetters stand for.
func numbersOf(e *api.Event) [len(numberLetters)]*int {
	return [...]*int{&e.Client, &e.Caller, &e.Run, &e.Generation, &e.How}
}

func isKind(n int) bool { return n >= api.EventJoin && n <= api.EventLeave }

// names tells whether a kind names what a letter stands for; 0 is no kind, and names nothing.
func names(kind int, letter byte) bool {
	return isKind(kind) && strings.IndexByte(kinds[kind].named, letter) >= 0
}

func namesKey(e api.Event) bool { return names(e.Kind, keyLetter) }

// Check tells whether an event may be (24.1).
func Check(e api.Event) api.Errno {
	if !tick.Is(e.At) || !isKind(e.Kind) || !numbersMayBe(e) || !outcomeMayBe(e) || !keyMayBe(e) {
		return api.ErrEvent
	}
	return api.OK
}

func numbersMayBe(e api.Event) bool {
	for at, n := range numbersOf(&e) {
		if *n < 0 || *n > 0 && !names(e.Kind, numberLetters[at]) {
			return false
		}
	}
	return e.How <= api.HowCancel
}

func outcomeMayBe(e api.Event) bool {
	if !names(e.Kind, valueLetter) {
		return e.Outcome == api.Outcome{}
	}
	return fail.Right(e.Outcome)
}

func keyMayBe(e api.Event) bool {
	if !namesKey(e) {
		return e.Key == api.Key{}
	}
	return key.Check(e.Key) == api.OK
}
