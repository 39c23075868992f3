// Package varint writes numbers and texts as bytes, and reads them.
package varint

import (
	"strconv"

	"gleaner/api"
)

const (
	// maxBytes is how many bytes a number up to api.MaxInt takes at most.
	maxBytes = 6
	// maxText is how many bytes a text has at most.
	maxText = 4000
	// maxDigits is how many digits api.MaxInt has.
	maxDigits = 13
)

// Put writes n, its lowest seven bits first.
func Put(n int) (string, api.Errno) {
	if n < 0 || n > api.MaxInt {
		return "", api.ErrArg
	}
	var out []byte
	for n >= 128 {
		out = append(out, byte(n%128+128))
		n /= 128
	}
	return string(append(out, byte(n))), api.OK
}

// Get reads the number that stands in s from at on, and tells the place behind it.
func Get(s string, at int) (int, int, api.Errno) {
	if at < 0 || at > len(s) {
		return 0, 0, api.ErrArg
	}
	n := 0
	for i := range maxBytes {
		if i >= len(s)-at {
			return 0, 0, api.ErrShort
		}
		b := int(s[at+i])
		if b < 128 {
			return last(n, b, i, at)
		}
		n += (b - 128) << (7 * i)
	}
	return 0, 0, api.ErrForm
}

// last ends the number n with its byte number i, which is b.
func last(n, b, i, at int) (int, int, api.Errno) {
	if b == 0 && i > 0 {
		return 0, 0, api.ErrForm
	}
	n += b << (7 * i)
	if n > api.MaxInt {
		return 0, 0, api.ErrLong
	}
	return n, at + i + 1, api.OK
}

// PutText writes how many bytes s has, and s.
func PutText(s string) (string, api.Errno) {
	if len(s) > maxText {
		return "", api.ErrLong
	}
	n, code := Put(len(s))
	if code != api.OK {
		return "", code
	}
	return n + s, api.OK
}

// GetText reads the text that stands in s from at on, and tells the place behind it.
func GetText(s string, at int) (string, int, api.Errno) {
	n, at, code := Get(s, at)
	if code != api.OK {
		return "", 0, code
	}
	if n > maxText {
		return "", 0, api.ErrLong
	}
	if len(s)-at < n {
		return "", 0, api.ErrShort
	}
	return s[at : at+n], at + n, api.OK
}

// Digits writes n in decimal digits.
func Digits(n int) string {
	return strconv.Itoa(n)
}

// Number reads a number from its decimal digits.
func Number(s string) (int, api.Errno) {
	if len(s) == 0 || s[0] == '0' && len(s) > 1 {
		return 0, api.ErrForm
	}
	for i := range len(s) {
		if s[i] < '0' || s[i] > '9' {
			return 0, api.ErrForm
		}
	}
	if len(s) > maxDigits {
		return 0, api.ErrLong
	}
	n := 0
	for i := range len(s) {
		n = 10*n + int(s[i]-'0')
	}
	if n > api.MaxInt {
		return 0, api.ErrLong
	}
	return n, api.OK
}
