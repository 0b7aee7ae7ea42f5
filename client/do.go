package client

import (
	"convoy/api"
	"convoy/key"
)

// kind is what the things to do of one Op are called, and what they name.
type kind struct {
	word string
	key  bool // Key is named
	// Of N, and of Slot: the zero value lets nothing but 0 be, as it must be of what is not named.
	numbers, slots span
}

// span is the numbers from the least to the greatest.
type span struct{ least, greatest int64 }

func (s span) has(n int64) bool { return n >= s.least && n <= s.greatest }

// named tells whether there is a choice, as there is of all that is named.
func (s span) named() bool { return s.greatest > 0 }

// kinds is the kind of each Op; none is at 0, as that is no Op.
var kinds = [...]kind{
	api.DoCall:   {word: "call", key: true},
	api.DoStart:  {word: "start", key: true, slots: span{0, api.MaxSlots - 1}},
	api.DoAwait:  {word: "await", slots: span{0, api.MaxSlots - 1}},
	api.DoForget: {word: "forget", key: true},
	api.DoCancel: {word: "cancel", numbers: span{1, api.MostToken}},
	api.DoOpen:   {word: "open", numbers: span{0, api.MaxGates - 1}},
	api.DoShut:   {word: "shut", numbers: span{0, api.MaxGates - 1}},
	api.DoSleep:  {word: "sleep", numbers: span{0, api.MaxTime}},
	api.DoToken:  {word: "token", numbers: span{0, api.MostToken}},
}

// Check tells whether a program may be, and the place at which it may not (21.1).
func Check(l []api.Do) (int, api.Errno) {
	if len(l) > api.MaxSteps {
		return api.MaxSteps, api.ErrMany
	}
	for at, do := range l {
		if !mayBe(do) {
			return at, api.ErrDo
		}
	}
	return 0, api.OK
}

func mayBe(do api.Do) bool {
	if !isOp(do.Op) {
		return false
	}
	is := kinds[do.Op]
	return is.keyMayBe(do.Key) && is.numbers.has(do.N) && is.slots.has(int64(do.Slot))
}

func isOp(op int) bool { return op >= api.DoCall && op <= api.DoToken }

func (is kind) keyMayBe(k api.Key) bool {
	if !is.key {
		return k == api.Key{}
	}
	return key.Check(k) == api.OK
}

// Keys tells the keys that any things to do name, each once, in the order in which they come first (21.1).
func Keys(l []api.Do) []api.Key {
	var named []api.Key
	for _, do := range l {
		if isOp(do.Op) && kinds[do.Op].key {
			named = append(named, do.Key)
		}
	}
	return key.Unlike(named...)
}
