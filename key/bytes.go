package key

import (
	"strings"

	"convoy/api"
)

// headSize is how many bytes of a key stand ahead of its name.
const headSize = 3

// head is what stands ahead of a key's name: the space and the name's length, of a longer name modulo 256.
func head(k api.Key) [headSize]byte {
	return [headSize]byte{byte(k.Space), byte(k.Space >> 8), byte(len(k.Name))}
}

// Bytes is a key as bytes.
func Bytes(k api.Key) (string, api.Errno) {
	if err := Check(k); err != api.OK {
		return "", err
	}
	h := head(k)
	return string(h[:]) + k.Name, api.OK
}

// Take is the key whose bytes stand in s from at on, and the place behind them.
func Take(s string, at int) (api.Key, int, bool) {
	// Held against what is left, as at and a length together may wrap.
	if at < 0 || len(s)-at < headSize {
		return api.Key{}, 0, false
	}
	from := at + headSize
	size := int(s[at+2])
	if size > api.MaxName || size > len(s)-from {
		return api.Key{}, 0, false
	}
	space := uint16(s[at]) | uint16(s[at+1])<<8
	// A copy, as a piece of s would keep all of s.
	return api.Key{Space: space, Name: strings.Clone(s[from : from+size])}, from + size, true
}
