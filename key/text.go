package key

import (
	"math"
	"strconv"
	"strings"

	"convoy/api"
)

// Text is a key as a text: its space, a colon, its name.
func Text(k api.Key) (string, api.Errno) {
	if err := Check(k); err != api.OK {
		return "", err
	}
	return strconv.Itoa(int(k.Space)) + ":" + k.Name, api.OK
}

// Parse is the key of a text, or the place at which the text goes wrong.
func Parse(s string) (api.Key, int, api.Errno) {
	space, colon := digits(s)
	if colon == 0 || colon == len(s) || s[colon] != ':' {
		return api.Key{}, colon, api.ErrKey
	}
	from := colon + 1
	if len(s)-from > api.MaxName {
		return api.Key{}, from + api.MaxName, api.ErrKey
	}
	// A copy, as a piece of s would keep all of s.
	return api.Key{Space: space, Name: strings.Clone(s[from:])}, 0, api.OK
}

// digits is the space at a text's beginning, and the first place that is no part of it.
func digits(s string) (uint16, int) {
	space := 0
	for i := range len(s) {
		if s[i] < '0' || s[i] > '9' {
			return uint16(space), i
		}
		// A 0 at the beginning is a space of its own: no digit goes behind it.
		if i > 0 && space == 0 {
			return uint16(space), i
		}
		next := space*10 + int(s[i]-'0')
		if next > math.MaxUint16 {
			return uint16(space), i
		}
		space = next
	}
	return uint16(space), len(s)
}
