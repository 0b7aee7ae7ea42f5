package snapshot

import (
	"math"
	"strings"

	"convoy/api"
	"convoy/key"
)

// reader goes through bytes part by part; behind a part that fails it goes no further.
type reader struct {
	s   string
	at  int       // where the next part begins, or the one that failed
	err api.Errno // of the part that failed
}

// pass goes on to the place behind a part, if that is right, and tells whether it did.
func (r *reader) pass(next int, right bool) bool {
	if r.err != api.OK {
		return false
	}
	if !right {
		r.err = api.ErrBytes
		return false
	}
	r.at = next
	return true
}

// mark takes what the bytes begin with.
func (r *reader) mark(mark string) {
	r.pass(r.at+len(mark), strings.HasPrefix(r.s[r.at:], mark))
}

// sum takes a sum, of whatever it is.
func (r *reader) sum() uint64 {
	from := r.at
	if !r.pass(from+sumSize, len(r.s)-from >= sumSize) {
		return 0
	}
	return takeSum(r.s[from:])
}

// number takes a number that is not below least, nor above most.
func (r *reader) number(least, most int64) int64 {
	x, next, there := TakeNumber(r.s, r.at)
	if !r.pass(next, there && x >= uint64(least) && x <= uint64(most)) {
		return 0
	}
	return int64(x)
}

// size takes a number of things, of which there are not fewer than least, nor more than most.
func (r *reader) size(least, most int) int { return int(r.number(int64(least), int64(most))) }

// time takes a time of a length.
func (r *reader) time() int64 { return r.number(0, math.MaxInt64) }

// signed takes a number with a sign.
func (r *reader) signed() int64 {
	x, next, there := TakeNumber(r.s, r.at)
	if !r.pass(next, there) {
		return 0
	}
	return Unsign(x)
}

// key takes a key that may stand there, and not ahead already; those ahead are known by their places.
func (r *reader) key(ahead map[api.Key]int, may func(api.Key) bool) api.Key {
	k, next, there := key.Take(r.s, r.at)
	_, twice := ahead[k]
	if !r.pass(next, there && !twice && may(k)) {
		return api.Key{}
	}
	ahead[k] = len(ahead)
	return k
}

// keys takes a list of at most so many keys, each of which may stand there.
func (r *reader) keys(most int, may func(api.Key) bool) []api.Key {
	var all []api.Key
	ahead := map[api.Key]int{}
	for count := r.size(0, most); len(all) < count && r.err == api.OK; {
		all = append(all, r.key(ahead, may))
	}
	return all
}

// entries takes a list of entries that a memo of a configuration has at a tick.
func (r *reader) entries(c api.Config, now int64) []api.Kept {
	var all []api.Kept
	ahead := map[api.Key]int{}
	for count := r.size(0, c.Entries); len(all) < count && r.err == api.OK; {
		k := r.key(ahead, anyKey)
		at := r.number(0, now)
		all = append(all, api.Kept{Key: k, At: at, Outcome: r.outcome(c)})
	}
	return all
}

func anyKey(api.Key) bool { return true }

// outcome takes an outcome that is kept.
func (r *reader) outcome(c api.Config) api.Outcome {
	kind := r.kind(c)
	if kind == api.FailNone {
		return api.Outcome{Value: r.signed()}
	}
	code := r.signed()
	run := r.number(1, math.MaxInt64)
	return api.Outcome{Fail: api.Fail{Kind: kind, Code: int(code), Run: int(run)}}
}

// kind takes the kind of a failure that is kept, or that of none, which a value has.
func (r *reader) kind(c api.Config) int {
	from := r.at
	if !r.pass(from+1, from < len(r.s) && keeps(c, int(r.s[from]))) {
		return api.FailNone
	}
	return int(r.s[from])
}

// keeps tells whether anything is kept with a kind of failure.
func keeps(c api.Config, kind int) bool {
	switch kind {
	case api.FailNone:
		return c.TTL > 0
	case api.FailLoad, api.FailPanic:
		return c.Negative > 0
	}
	return false
}

// end takes the sum of all that stands ahead, behind which nothing is left.
func (r *reader) end() {
	from := r.at
	sum := r.sum()
	if r.err == api.OK && sum != sumOf(r.s[:from]) {
		r.at, r.err = from, api.ErrSum
	}
	r.pass(r.at, r.at == len(r.s))
}
