package key_test

import (
	"strings"
	"testing"

	"convoy/api"
	"convoy/key"
)

// TestCompareIsAnOrder: 2.4, of any keys, and as the chapter's words say.
func TestCompareIsAnOrder(t *testing.T) {
	var keys []api.Key
	for _, space := range []uint16{0, 1, 256, 65535} {
		for _, name := range []string{"", "\x00", "a", "a\x00", "ab", "b", "\x7f", "\x80", "\xff", strings.Repeat("a", 64), strings.Repeat("a", 65), strings.Repeat("a", 300)} {
			keys = append(keys, named(space, name))
		}
	}
	for _, a := range keys {
		for _, b := range keys {
			c := key.Compare(a, b)
			if (c == 0) != (a == b) || (c == -1) != before(a, b) || (c == 1) != before(b, a) {
				t.Fatalf("Compare(%#v, %#v): %d", a, b, c)
			}
			if key.Compare(b, a) != -c {
				t.Fatalf("Compare(%#v, %#v): %d, and not the other way round", a, b, c)
			}
			for _, x := range keys {
				if c <= 0 && key.Compare(b, x) <= 0 && key.Compare(a, x) > 0 {
					t.Fatalf("%#v, %#v, %#v", a, b, x)
				}
			}
		}
	}
}

// TestUnlikeKeysHaveUnlikeTexts: keys are the same, if their texts or their bytes are (2.4).
func TestUnlikeKeysHaveUnlikeTexts(t *testing.T) {
	texts, bytes := map[string]api.Key{}, map[string]api.Key{}
	for _, k := range mayBe() {
		s, _ := key.Text(k)
		b, _ := key.Bytes(k)
		if other, is := texts[s]; is && other != k {
			t.Errorf("%#v and %#v: %#v", k, other, s)
		}
		if other, is := bytes[b]; is && other != k {
			t.Errorf("%#v and %#v: %#v", k, other, b)
		}
		texts[s], bytes[b] = k, k
	}
}
