// Package digits is layer 1: numbers and bytes as texts. See shared/doc/01-digits.md.
package digits

import (
	"math"
	"strconv"
	"strings"
)

const sixteen = "0123456789abcdef"

// Dec tells a number by its decimal digits.
func Dec(n uint64) string { return strconv.FormatUint(n, 10) }

// ReadDec reads just what Dec tells.
func ReadDec(s string) (uint64, bool) { return readNumber(s, 10) }

// Hex tells a number by its digits base sixteen.
func Hex(n uint64) string { return strconv.FormatUint(n, 16) }

// ReadHex reads just what Hex tells.
func ReadHex(s string) (uint64, bool) { return readNumber(s, 16) }

// Bytes tells each byte by two digits base sixteen.
func Bytes(b []byte) string {
	text := make([]byte, 0, 2*len(b))
	for _, x := range b {
		text = append(text, sixteen[x>>4], sixteen[x&15])
	}
	return string(text)
}

// ReadBytes reads just what Bytes tells.
func ReadBytes(s string) ([]byte, bool) {
	if len(s)%2 != 0 {
		return nil, false
	}
	b := make([]byte, len(s)/2)
	for i, r := range s {
		d, ok := digit(r)
		if !ok {
			return nil, false
		}
		b[i/2] = b[i/2]<<4 | byte(d)
	}
	return b, true
}

// Words tells what stands between a text's blanks.
func Words(s string) []string {
	var words []string
	begin := 0
	for i, r := range s {
		if r == ' ' {
			words = addWord(words, s[begin:i])
			begin = i + 1
		}
	}
	return addWord(words, s[begin:])
}

// Plain asks whether a text is one word of printable ASCII.
func Plain(s string) bool {
	for _, r := range s {
		if r < '!' || r > '~' {
			return false
		}
	}
	return s != ""
}

// readNumber refuses noughts ahead, so that no number is read from two texts.
func readNumber(s string, base uint64) (uint64, bool) {
	if s == "" || s[0] == '0' && len(s) > 1 {
		return 0, false
	}
	n := uint64(0)
	for _, r := range s {
		d, ok := digit(r)
		if !ok || d >= base || n > (math.MaxUint64-d)/base {
			return 0, false
		}
		n = n*base + d
	}
	return n, true
}

// digit knows small letters alone: great ones would give a number a second text.
func digit(r rune) (uint64, bool) {
	switch {
	case '0' <= r && r <= '9':
		return uint64(r - '0'), true
	case 'a' <= r && r <= 'f':
		return uint64(r-'a') + 10, true
	}
	return 0, false
}

// addWord copies the word: a piece of the text would keep all of the text alive.
func addWord(words []string, word string) []string {
	if word == "" {
		return words
	}
	return append(words, strings.Clone(word))
}
