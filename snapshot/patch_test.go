package snapshot_test

import (
	"testing"

	"convoy/api"
	"convoy/memo"
	"convoy/snapshot"
)

// patch is the patch of a memo against an old one, which must be the one worked out by hand.
func patch(t *testing.T, old, m *memo.Memo) string {
	t.Helper()
	got, err := snapshot.Patch(old, m)
	if want := plainOf(m).patch(plainOf(old)); got != want || err != api.OK {
		t.Fatalf("Patch: %q, %d, not %q", got, err, want)
	}
	return got
}

// patches looks what a patch has between its sums.
func patches(t *testing.T, old, m *memo.Memo, want string) {
	t.Helper()
	s := patch(t, old, m)
	ahead := "convoyp1" + tail(tell(t, old)) + tail(tell(t, m)) + want
	if s != sealedByHand(ahead) {
		t.Errorf("Patch: %q, not %q", s[24:], sealedByHand(ahead)[24:])
	}
}

// patchNot looks that there is no patch.
func patchNot(t *testing.T, old, m *memo.Memo, want api.Errno) {
	t.Helper()
	if s, err := snapshot.Patch(old, m); s != "" || err != want {
		t.Errorf("Patch: %q, %d, not %d", s, err, want)
	}
}

// TestPatchUnlike: unlike configurations, in each number (20.3).
func TestPatchUnlike(t *testing.T) {
	m := memoOf(t, usual, 3)
	for i := range 7 {
		c := usual
		switch i {
		case 0:
			c.TTL++
		case 1:
			c.Negative++
		case 2:
			c.Stale++
		case 3:
			c.Entries++
		case 4:
			c.Flight++
		case 5:
			c.Batch++
		case 6:
			c.Window++
		}
		for _, now := range []int64{2, 3, 4} {
			o := memoOf(t, c, now)
			patchNot(t, m, o, api.ErrOther)
			patchNot(t, o, m, api.ErrOther)
		}
	}
}

// TestPatchTime: a time that is below the old one's, the same, and above (20.3).
func TestPatchTime(t *testing.T) {
	old := memoOf(t, usual, 300)
	patchNot(t, old, memoOf(t, usual, 299), api.ErrOther)
	patchNot(t, old, memoOf(t, usual, 0), api.ErrOther)
	patches(t, old, memoOf(t, usual, 300), "\xac\x02\x00\x00\x00")
	patches(t, old, memoOf(t, usual, 301), "\xad\x02\x00\x00\x00")
	patches(t, memoOf(t, usual, 0), memoOf(t, usual, 0), "\x00\x00\x00\x00")
	patches(t, old, memoOf(t, usual, maxTime), "\x80\x80\x80\x80\x80\x80\x80\x80\x40\x00\x00\x00")
}

// TestPatchSame: of memos that are the same only the keys are told (20.3).
func TestPatchSame(t *testing.T) {
	m := memoOf(t, usual, 3, kept(named("b"), 1, value(7)), kept(named("a"), 2, failure(1, 2, 3)))
	want := "\x03" + "\x00" + "\x00" + "\x02" + "\x00\x00\x01b" + "\x00\x00\x01a"
	patches(t, m, m, want)
	patches(t, m, m.Clone(), want)
}

// TestPatchGone: keys that are gone are told in the order of keys, not in that of use (20.3).
func TestPatchGone(t *testing.T) {
	c := greatest
	var l []api.Kept
	for _, k := range []api.Key{longest, {Space: 256}, named("b"), named("ab"), {Space: 1, Name: "z"}, named(""), named("a")} {
		l = append(l, kept(k, 0, value(1)))
	}
	old := memoOf(t, c, 0, l...)
	gone := "\x00\x00\x00" + "\x00\x00\x01a" + "\x00\x00\x02ab" + "\x00\x00\x01b" + "\x01\x00\x01z" + "\x00\x01\x00"
	patches(t, old, memoOf(t, c, 0), "\x00"+"\x07"+gone+keyByHand(longest)+"\x00"+"\x00")
	patches(t, old, memoOf(t, c, 0, l[0]), "\x00"+"\x06"+gone+"\x00"+"\x01"+keyByHand(longest))
}

// TestPatchOthers: what is new, and what is other, in its tick, its value or its failure, as the new one has them; what is only used anew is not (20.3).
func TestPatchOthers(t *testing.T) {
	a, b, f := kept(named("a"), 1, value(7)), kept(named("b"), 2, value(8)), kept(named("f"), 2, failure(1, 2, 3))
	old := memoOf(t, usual, 3, a, b, f)
	keys := "\x03" + "\x00\x00\x01f" + "\x00\x00\x01b" + "\x00\x00\x01a"
	patches(t, old, memoOf(t, usual, 3, f, b, a), "\x03\x00\x00"+keys)
	for _, x := range []struct {
		other api.Kept
		want  string
	}{
		{kept(named("b"), 3, value(8)), "\x00\x00\x01b\x03\x00\x10"},
		{kept(named("b"), 1, value(8)), "\x00\x00\x01b\x01\x00\x10"},
		{kept(named("b"), 2, value(-8)), "\x00\x00\x01b\x02\x00\x0f"},
		{kept(named("b"), 2, failure(1, -1, 2)), "\x00\x00\x01b\x02\x01\x01\x02"},
	} {
		patches(t, old, memoOf(t, usual, 3, f, x.other, a), "\x03\x00\x01"+x.want+keys)
	}
	for _, x := range []struct {
		other api.Outcome
		want  string
	}{
		{failure(2, 2, 3), "\x00\x00\x01f\x02\x02\x04\x03"},
		{failure(1, -2, 3), "\x00\x00\x01f\x02\x01\x03\x03"},
		{failure(1, 2, 4), "\x00\x00\x01f\x02\x01\x04\x04"},
		{value(2), "\x00\x00\x01f\x02\x00\x04"},
	} {
		patches(t, old, memoOf(t, usual, 3, kept(f.Key, 2, x.other), b, a), "\x03\x00\x01"+x.want+keys)
	}
	m := memoOf(t, usual, 9, kept(named("n"), 9, value(1)), a, kept(named("f"), 8, value(2)), kept(named("c"), 3, value(3)))
	patches(t, old, m, "\x09"+
		"\x01"+"\x00\x00\x01b"+
		"\x03"+"\x00\x00\x01n\x09\x00\x02"+"\x00\x00\x01f\x08\x00\x04"+"\x00\x00\x01c\x03\x00\x06"+
		"\x04"+"\x00\x00\x01n"+"\x00\x00\x01a"+"\x00\x00\x01f"+"\x00\x00\x01c")
}

// TestPatchLeavesBoth: neither memo is changed, nor used (20.3).
func TestPatchLeavesBoth(t *testing.T) {
	a, b := kept(named("a"), 1, value(7)), kept(named("b"), 2, value(8))
	old, m := memoOf(t, usual, 3, a, b), memoOf(t, usual, 4, b, kept(named("c"), 4, value(9)))
	was, now := plainOf(old), plainOf(m)
	patch(t, old, m)
	snapshot.Patch(m, old)
	snapshot.Same(old, m)
	tell(t, old)
	if !plainOf(old).is(was) || !plainOf(m).is(now) {
		t.Errorf("%+v, %+v", plainOf(old), plainOf(m))
	}
}
