package client_test

import (
	"fmt"
	"maps"
	"math"
	"math/big"
	"regexp"
	"slices"
	"strings"

	"convoy/api"
)

// form is a row of the chapter's table, written once more by hand.
type form struct {
	op              int
	word            string
	key, n, slot    bool
	least, greatest int64 // of N
}

var forms = []form{
	{op: 1, word: "call", key: true},
	{op: 2, word: "start", key: true, slot: true},
	{op: 3, word: "await", slot: true},
	{op: 4, word: "forget", key: true},
	{op: 5, word: "cancel", n: true, least: 1, greatest: 1024},
	{op: 6, word: "open", n: true, least: 0, greatest: 255},
	{op: 7, word: "shut", n: true, least: 0, greatest: 255},
	{op: 8, word: "sleep", n: true, least: 0, greatest: 1 << 62},
	{op: 9, word: "token", n: true, least: 0, greatest: 1024},
}

// named is the key of a name, in the space 0.
func named(name string) api.Key { return api.Key{Name: name} }

// kinds is keys of all kinds that may be, and whose names have no byte 10.
var kinds = []api.Key{
	{}, named("a"), named("b"), named("0"), named("3"), named("-1"), named(" "), named("  "), named(" a"), named("a "), named("a b"), named("a  b"), named("a 3"), named("a 16"), named("3 "), named(" 3"),
	named("a:b"), named(":"), named("0:a"), named("0:a 3"), named("\t"), named("a\tb"), named("\r"), named("\x00"), named("\x0b"), named("\x09"), named("\xff\xfe\x80"), named("\u00e9\u20ac"), named("\u00a0"), named("\u2028"), named("call 0:a"), named("#"),
	named(strings.Repeat("n", 63)), named(strings.Repeat("n", 64)), named(strings.Repeat(" ", 64)), named(strings.Repeat("\xff", 64)),
	{Space: 1}, {Space: 1, Name: "a"}, {Space: 10, Name: "a"}, {Space: 255, Name: "a"}, {Space: 256, Name: " "}, {Space: 65535}, {Space: 65535, Name: strings.Repeat("z", 64)},
}

// lines is keys that may be, and whose names have a byte 10.
var lines = []api.Key{
	named("\n"), named("\n\n"), named("a\n"), named("\na"), named("a\nb"), named("a b\nc 3"), named(strings.Repeat("n", 63) + "\n"), {Space: 65535, Name: "a\ncall 0:b"},
}

// wrongKeys is keys that may not be.
var wrongKeys = []api.Key{
	named(strings.Repeat("n", 65)), named(strings.Repeat("n", 66)), named(strings.Repeat("\n", 65)), named(strings.Repeat("n", 256)), named(strings.Repeat("n", 320)), {Space: 65535, Name: strings.Repeat("\x00", 65)}, {Space: 1, Name: strings.Repeat("x", 100000)},
}

// good is things to do that may be and have a line, of each Op, at the edges and between.
func good() []api.Do {
	var all []api.Do
	for _, f := range forms {
		keys, numbers, slots := []api.Key{{}}, []int64{0}, []int{0}
		if f.key {
			keys = kinds
		}
		if f.n {
			numbers = []int64{f.least, f.least + 1, 9, 10, 100, f.greatest - 1, f.greatest}
		}
		if f.slot {
			slots = []int{0, 1, 9, 10, 14, 15}
		}
		for _, k := range keys {
			for _, n := range numbers {
				for _, slot := range slots {
					all = append(all, api.Do{Op: f.op, Key: k, N: n, Slot: slot})
				}
			}
		}
	}
	return all
}

// unlined is things to do that may be, and whose keys' names have a byte 10.
func unlined() []api.Do {
	var all []api.Do
	for _, k := range lines {
		all = append(all, api.Do{Op: 1, Key: k}, api.Do{Op: 2, Key: k, Slot: 3}, api.Do{Op: 4, Key: k})
	}
	return all
}

// bad is things to do that may not be: each of them for one cause alone, or for its Op.
func bad() []api.Do {
	var all []api.Do
	for _, op := range []int{math.MinInt, -9, -1, 0, 10, 11, 255, 257, 1 << 32, math.MaxInt} {
		all = append(all, api.Do{Op: op}, api.Do{Op: op, Key: named("a")}, api.Do{Op: op, N: 1}, api.Do{Op: op, Slot: 1})
	}
	for _, f := range forms {
		right := api.Do{Op: f.op, N: f.least}
		keys, numbers, slots := slices.Concat(wrongKeys, kinds[1:], lines), []int64{math.MinInt64, -1, 1, 2, 1 << 32, math.MaxInt64}, []int{math.MinInt, -1, 1, 15, 16, 1 << 32, math.MaxInt}
		if f.key {
			keys = wrongKeys
		}
		if f.n {
			numbers = []int64{math.MinInt64, math.MinInt64 + f.least, f.least - 1, f.greatest + 1, f.greatest + 2, math.MaxInt64}
		}
		if f.slot {
			slots = []int{math.MinInt, -15, -1, 16, 17, 255, 1 << 32, math.MaxInt}
		}
		for _, k := range keys {
			all = append(all, right)
			all[len(all)-1].Key = k
		}
		for _, n := range numbers {
			all = append(all, right)
			all[len(all)-1].N = n
		}
		for _, slot := range slots {
			all = append(all, right)
			all[len(all)-1].Slot = slot
		}
	}
	return all
}

// lineByHand is the line of a thing to do that may be.
func lineByHand(do api.Do) string {
	f := forms[do.Op-1]
	s := f.word
	if f.key {
		s += fmt.Sprintf(" %d:%s", do.Key.Space, do.Key.Name)
	}
	if f.n {
		s += fmt.Sprintf(" %d", do.N)
	}
	if f.slot {
		s += fmt.Sprintf(" %d", do.Slot)
	}
	return s + "\n"
}

// textByHand is the text of a program that may be.
func textByHand(l []api.Do) string {
	s := ""
	for _, do := range l {
		s += lineByHand(do)
	}
	return s
}

// shape is that of a line, with numbers of any size: a word, a space and a name, a word, a space, a name and a slot, or a word and a number.
var shape = regexp.MustCompile(`\A(?:(call|forget) (0|[1-9][0-9]*):((?s:.)*)|(start) (0|[1-9][0-9]*):((?s:.)*) (0|[1-9][0-9]*)|(await|cancel|open|shut|sleep|token) (0|[1-9][0-9]*))\z`)

// numberByHand is the number of some digits, if it is not above the greatest.
func numberByHand(digits string, least, greatest int64) (int64, bool) {
	n, ok := new(big.Int).SetString(digits, 10)
	return n.Int64(), ok && n.Cmp(big.NewInt(least)) >= 0 && n.Cmp(big.NewInt(greatest)) <= 0
}

// doByHand is the thing to do whose line that is, without its end.
func doByHand(line string) (api.Do, bool) {
	m := shape.FindStringSubmatch(line)
	if m == nil {
		return api.Do{}, false
	}
	f := forms[slices.IndexFunc(forms, func(f form) bool { return f.word == m[1]+m[4]+m[8] })]
	do := api.Do{Op: f.op}
	if f.key {
		space, ok := numberByHand(m[2]+m[5], 0, 65535)
		do.Key = api.Key{Space: uint16(space), Name: m[3] + m[6]}
		if !ok || len(do.Key.Name) > 64 {
			return api.Do{}, false
		}
	}
	if f.slot {
		slot, ok := numberByHand(m[7]+m[9], 0, 15)
		do.Slot = int(slot)
		return do, ok
	}
	if f.n {
		n, ok := numberByHand(m[9], f.least, f.greatest)
		do.N = n
		return do, ok
	}
	return do, true
}

// parsedByHand is the program of a text, its place and its error.
func parsedByHand(s string) ([]api.Do, int, api.Errno) {
	var all []api.Do
	parts := strings.Split(s, "\n")
	for i, line := range parts[:len(parts)-1] {
		do, ok := doByHand(line)
		if !ok {
			return nil, i, 212
		}
		all = append(all, do)
	}
	if parts[len(parts)-1] != "" {
		return nil, len(parts) - 1, 212
	}
	if len(all) > 256 {
		return nil, 256, 3
	}
	return all, 0, 0
}

// plainSlot is a slot: for whom it is pending, what is in it.
type plainSlot struct {
	pending int
	full    *api.Got
}

// plain is a client that keeps all in the plainest way.
type plain struct {
	behind, ahead []api.Do
	token         int
	log           []api.Got
	slots         map[int]plainSlot
}

func newPlain(l []api.Do) *plain {
	return &plain{ahead: slices.Clone(l), slots: map[int]plainSlot{}}
}

func (p *plain) clone() *plain {
	return &plain{slices.Clone(p.behind), slices.Clone(p.ahead), p.token, slices.Clone(p.log), maps.Clone(p.slots)}
}

func (p *plain) next() (api.Do, int, bool) {
	if len(p.ahead) == 0 {
		return api.Do{}, 0, false
	}
	return p.ahead[0], len(p.behind), true
}

func (p *plain) goOn() bool {
	if len(p.ahead) == 0 {
		return false
	}
	p.behind, p.ahead = append(p.behind, p.ahead[0]), p.ahead[1:]
	return true
}

func (p *plain) use(token int) api.Errno {
	if token < 0 || token > 1024 {
		return 1
	}
	p.token = token
	return 0
}

// outcomeMayBe is chapter 3's words.
func outcomeMayBe(o api.Outcome) bool {
	f := o.Fail
	if f == (api.Fail{}) {
		return true
	}
	if o.Value != 0 {
		return false
	}
	switch f.Kind {
	case 1, 2:
		return f.Run >= 1
	case 3, 4:
		return f.Code == 0 && f.Run == 0
	case 5:
		return f.Code == 0 && f.Run >= 1
	}
	return false
}

func (p *plain) had(g api.Got) api.Errno {
	if g.Place < 0 || g.Place >= len(p.behind)+len(p.ahead) || g.How < 0 || g.How > 6 || g.At < 0 || g.At > 1<<62 || !outcomeMayBe(g.Outcome) {
		return 1
	}
	p.log = append(p.log, g)
	return 0
}

func (p *plain) put(slot, caller int) api.Errno {
	if slot < 0 || slot > 15 {
		return 211
	}
	if caller < 1 {
		return 1
	}
	p.slots[slot] = plainSlot{pending: caller}
	return 0
}

func (p *plain) fill(slot, caller int, g api.Got) bool {
	s, known := p.slots[slot]
	if !known || s.full != nil || s.pending != caller {
		return false
	}
	p.slots[slot] = plainSlot{full: &g}
	return true
}

func (p *plain) take(slot int) (api.Got, int, api.Errno) {
	if slot < 0 || slot > 15 {
		return api.Got{}, 0, 211
	}
	s, known := p.slots[slot]
	switch {
	case !known:
		return api.Got{}, 1, 0
	case s.full == nil:
		return api.Got{}, 2, 0
	}
	delete(p.slots, slot)
	return *s.full, 3, 0
}
