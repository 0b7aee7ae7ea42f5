package snapshot_test

import (
	"math/big"
	"slices"
	"sort"

	"convoy/api"
	"convoy/memo"
)

// A plain memo, told and read as the document tells it, with numbers that have no bound, and lists that are searched.

// word is 2^64.
var word = new(big.Int).Lsh(big.NewInt(1), 64)

// pow is 2^n.
func pow(n uint) *big.Int { return new(big.Int).Lsh(big.NewInt(1), n) }

// numberByHand is the bytes of a number from 0 on, of any size.
func numberByHand(x *big.Int) string {
	s := ""
	left := new(big.Int).Set(x)
	for left.Cmp(big.NewInt(128)) >= 0 {
		low := new(big.Int)
		left.DivMod(left, big.NewInt(128), low)
		s += string([]byte{byte(low.Int64()) + 128})
	}
	return s + string([]byte{byte(left.Int64())})
}

// signByHand is the number from 0 on by which one with a sign is told.
func signByHand(n int64) *big.Int {
	twice := new(big.Int).Mul(big.NewInt(n), big.NewInt(2))
	if n < 0 {
		return twice.Sub(twice.Neg(twice), big.NewInt(1))
	}
	return twice
}

// unsignByHand is the number that is told by x.
func unsignByHand(x *big.Int) int64 {
	half, odd := new(big.Int).DivMod(x, big.NewInt(2), new(big.Int))
	if odd.Sign() == 0 {
		return half.Int64()
	}
	return half.Neg(half.Add(half, big.NewInt(1))).Int64()
}

// hex is the number of some hexadecimal digits.
func hex(digits string) *big.Int {
	n, _ := new(big.Int).SetString(digits, 16)
	return n
}

// sumByHand is the sum of bytes, as chapter 1 tells it of the seed 0.
func sumByHand(s string) *big.Int {
	h := big.NewInt(0)
	h.SetString("14695981039346656037", 10)
	for _, b := range []byte(s) {
		h.Xor(h, big.NewInt(int64(b)))
		h.Mod(h.Mul(h, big.NewInt(1099511628211)), word)
	}
	h.Xor(h, new(big.Int).Rsh(h, 30))
	h.Mod(h.Mul(h, hex("bf58476d1ce4e5b9")), word)
	h.Xor(h, new(big.Int).Rsh(h, 27))
	h.Mod(h.Mul(h, hex("94d049bb133111eb")), word)
	return h.Xor(h, new(big.Int).Rsh(h, 31))
}

// eight is the 8 bytes of a sum, the lowest first.
func eight(sum *big.Int) string {
	b := sum.FillBytes(make([]byte, 8))
	slices.Reverse(b)
	return string(b)
}

// sealedByHand is bytes with their sum behind them.
func sealedByHand(s string) string { return s + eight(sumByHand(s)) }

// tail is the last 8 bytes.
func tail(s string) string { return s[len(s)-8:] }

// keyByHand is the bytes of a key.
func keyByHand(k api.Key) string {
	return string([]byte{byte(k.Space % 256), byte(k.Space / 256), byte(len(k.Name))}) + k.Name
}

// plain is a memo as it is told.
type plain struct {
	config api.Config
	now    int64
	list   []api.Kept // the one that was used the longest time ago first
}

// plainOf is a memo as it stands.
func plainOf(m *memo.Memo) plain { return plain{m.Config(), m.Now(), m.All()} }

func (p plain) is(o plain) bool {
	return p.config == o.config && p.now == o.now && slices.Equal(p.list, o.list)
}

// get is the entry of a key.
func (p plain) get(k api.Key) (api.Kept, bool) {
	for _, e := range p.list {
		if e.Key == k {
			return e, true
		}
	}
	return api.Kept{}, false
}

func plainNumber(n int64) string { return numberByHand(big.NewInt(n)) }

func plainSigned(n int64) string { return numberByHand(signByHand(n)) }

func plainKeys(l []api.Key) string {
	s := plainNumber(int64(len(l)))
	for _, k := range l {
		s += keyByHand(k)
	}
	return s
}

func plainEntries(l []api.Kept) string {
	s := plainNumber(int64(len(l)))
	for _, e := range l {
		s += keyByHand(e.Key) + plainNumber(e.At)
		if f := e.Outcome.Fail; f == (api.Fail{}) {
			s += "\x00" + plainSigned(e.Outcome.Value)
		} else {
			s += string([]byte{byte(f.Kind)}) + plainSigned(int64(f.Code)) + plainNumber(int64(f.Run))
		}
	}
	return s
}

func (p plain) tell() string {
	c := p.config
	s := "convoy01"
	for _, n := range []int64{c.TTL, c.Negative, c.Stale, int64(c.Entries), int64(c.Flight), int64(c.Batch), c.Window, p.now} {
		s += plainNumber(n)
	}
	return sealedByHand(s + plainEntries(p.list))
}

// patch is the patch of p against an old one, which must be of the same configuration.
func (p plain) patch(old plain) string {
	var gone, all []api.Key
	for _, e := range old.list {
		if _, there := p.get(e.Key); !there {
			gone = append(gone, e.Key)
		}
	}
	sort.Slice(gone, func(i, j int) bool {
		a, b := gone[i], gone[j]
		return a.Space < b.Space || a.Space == b.Space && a.Name < b.Name
	})
	var others []api.Kept
	for _, e := range p.list {
		all = append(all, e.Key)
		if was, there := old.get(e.Key); !there || was != e {
			others = append(others, e)
		}
	}
	s := "convoyp1" + tail(old.tell()) + tail(p.tell()) + plainNumber(p.now)
	return sealedByHand(s + plainKeys(gone) + plainEntries(others) + plainKeys(all))
}

// wrong is what is wrong with bytes, and where.
type wrong struct {
	at  int
	err api.Errno
}

// eater eats bytes from the front, and panics with what is wrong.
type eater struct {
	all  string
	left string
}

func (e *eater) place() int { return len(e.all) - len(e.left) }

// must panics, unless a part that begins at a place is right.
func must(right bool, at int) {
	if !right {
		panic(wrong{at, api.ErrBytes})
	}
}

// bytes eats n bytes.
func (e *eater) bytes(n int) string {
	must(len(e.left) >= n, e.place())
	s := e.left[:n]
	e.left = e.left[n:]
	return s
}

// number eats a number that is from least to most.
func (e *eater) number(least, most *big.Int) *big.Int {
	at := e.place()
	size := 1
	for size <= len(e.left) && e.left[size-1] >= 128 {
		size++
	}
	must(size <= len(e.left), at)
	x := new(big.Int)
	for i := size - 1; i >= 0; i-- {
		x.Add(x.Mul(x, big.NewInt(128)), big.NewInt(int64(e.left[i]%128)))
	}
	must(numberByHand(x) == e.left[:size], at)
	must(x.Cmp(least) >= 0 && x.Cmp(most) <= 0, at)
	e.left = e.left[size:]
	return x
}

func (e *eater) small(least, most int64) int64 {
	return e.number(big.NewInt(least), big.NewInt(most)).Int64()
}

func (e *eater) signed() int64 {
	return unsignByHand(e.number(new(big.Int), new(big.Int).Sub(word, big.NewInt(1))))
}

// key eats a key, of which may tells whether it may stand there.
func (e *eater) key(may func(api.Key) bool) api.Key {
	at := e.place()
	must(len(e.left) >= 3 && e.left[2] <= 64 && len(e.left) >= 3+int(e.left[2]), at)
	k := api.Key{Space: uint16(e.left[0]) + 256*uint16(e.left[1]), Name: e.left[3 : 3+int(e.left[2])]}
	must(may(k), at)
	e.left = e.left[3+len(k.Name):]
	return k
}

func (e *eater) keys(most int, may func(api.Key) bool) []api.Key {
	var l []api.Key
	for range e.small(0, int64(most)) {
		l = append(l, e.key(func(k api.Key) bool { return may(k) && !slices.Contains(l, k) }))
	}
	return l
}

func (e *eater) entries(c api.Config, now int64) plain {
	var p plain
	for range e.small(0, int64(c.Entries)) {
		var kept api.Kept
		kept.Key = e.key(func(k api.Key) bool { _, ahead := p.get(k); return !ahead })
		kept.At = e.small(0, now)
		at := e.place()
		switch kind := e.bytes(1)[0]; kind {
		case 0:
			must(c.TTL > 0, at)
			kept.Outcome.Value = e.signed()
		case 1, 2:
			must(c.Negative > 0, at)
			kept.Outcome.Fail = api.Fail{Kind: int(kind), Code: int(e.signed())}
			kept.Outcome.Fail.Run = int(e.small(1, most))
		default:
			must(false, at)
		}
		p.list = append(p.list, kept)
	}
	return p
}

// end eats the sum, behind which nothing is left.
func (e *eater) end() {
	at := e.place()
	if e.bytes(8) != eight(sumByHand(e.all[:at])) {
		panic(wrong{at, api.ErrSum})
	}
	must(e.left == "", e.place())
}

// caught makes of what was wrong an answer.
func caught(w *wrong) {
	if r := recover(); r != nil {
		*w = r.(wrong)
	}
}

// plainRead reads a memo.
func plainRead(s string) (p plain, w wrong) {
	defer caught(&w)
	e := &eater{s, s}
	must(len(s) >= 8 && e.bytes(8) == "convoy01", 0)
	var c api.Config
	c.TTL, c.Negative, c.Stale = e.small(0, most), e.small(0, most), e.small(0, most)
	c.Entries, c.Flight, c.Batch = int(e.small(0, 65536)), int(e.small(1, 4096)), int(e.small(1, 1024))
	c.Window = e.small(0, most)
	now := e.small(0, maxTime)
	list := e.entries(c, now).list
	e.end()
	return plain{c, now, list}, w
}

// plainApply lays a patch over an old memo.
func plainApply(old plain, s string) (p plain, w wrong) {
	defer caught(&w)
	e := &eater{s, s}
	must(len(s) >= 8 && e.bytes(8) == "convoyp1", 0)
	first, second := e.bytes(8), e.bytes(8)
	now := e.small(old.now, maxTime)
	gone := e.keys(old.config.Entries, func(k api.Key) bool { _, there := old.get(k); return there })
	others := e.entries(old.config, now)
	all := e.keys(old.config.Entries, func(k api.Key) bool {
		_, was := old.get(k)
		_, other := others.get(k)
		return (was || other) && !slices.Contains(gone, k)
	})
	e.end()
	out := plain{config: old.config, now: now}
	for _, k := range all {
		kept, other := others.get(k)
		if !other {
			kept, _ = old.get(k)
		}
		out.list = append(out.list, kept)
	}
	if first != tail(old.tell()) {
		panic(wrong{8, api.ErrOther})
	}
	if second != tail(out.tell()) {
		panic(wrong{16, api.ErrOther})
	}
	return out, w
}
