// Package wire has numbers and texts as bytes: see ../../shared/DOC.md and doc/01-wire.md.
package wire

import (
	"math/bits"
	"strings"

	"bellman/api"
)

const (
	belowZero = 128 // what the head of a number below 0 has more
	maxBytes  = 8   // bytes that a magnitude has at most
)

// Num is n's bytes.
func Num(n int64) string {
	head, magnitude := byte(0), uint64(n)
	if n < 0 {
		head, magnitude = belowZero, -magnitude
	}
	count := (bits.Len64(magnitude) + 7) / 8
	var all [1 + maxBytes]byte
	all[0] = head + byte(count)
	for i := range count {
		all[count-i] = byte(magnitude >> (8 * i))
	}
	return string(all[:1+count])
}

// GetNum gets a number that s begins with, and what is behind it.
func GetNum(s string) (int64, string, api.Errno) {
	n, rest, err := cutNum(s)
	return n, strings.Clone(rest), err
}

// Text is s's length and s, as bytes.
func Text(s string) (string, api.Errno) {
	if len(s) > api.MaxText {
		return "", api.ErrLong
	}
	return Num(int64(len(s))) + s, api.OK
}

// GetText gets a text that s begins with, and what is behind it.
func GetText(s string) (string, string, api.Errno) {
	text, rest, err := cutText(s)
	return text, strings.Clone(rest), err
}

// Nums is how many numbers there are, and each one's bytes.
func Nums(l ...int64) (string, api.Errno) {
	return putList(l, func(n int64) (string, api.Errno) { return Num(n), api.OK })
}

// GetNums gets a list of numbers that s begins with, and what is behind it.
func GetNums(s string) ([]int64, string, api.Errno) {
	return getList(s, cutNum)
}

// Texts is how many texts there are, and each one's bytes.
func Texts(l ...string) (string, api.Errno) {
	return putList(l, Text)
}

// GetTexts gets a list of texts that s begins with, and what is behind it.
func GetTexts(s string) ([]string, string, api.Errno) {
	return getList(s, cutText)
}

// cutNum gets as GetNum does, but what is behind the number is a piece of s: a list would be copied once for each of its parts otherwise.
func cutNum(s string) (int64, string, api.Errno) {
	if s == "" {
		return 0, "", api.ErrShort
	}
	below, count := s[0] >= belowZero, int(s[0]%belowZero)
	if count > maxBytes {
		return 0, "", api.ErrCode
	}
	if len(s) < 1+count {
		return 0, "", api.ErrShort
	}
	n, ok := number(below, s[1:1+count])
	if !ok {
		return 0, "", api.ErrCode
	}
	return n, s[1+count:], api.OK
}

// number is the number of that sign and magnitude; not ok, if there is none, or if it has other bytes than these.
func number(below bool, magnitude string) (n int64, ok bool) {
	if magnitude == "" {
		return 0, !below
	}
	if magnitude[0] == 0 {
		return 0, false
	}
	var m uint64
	for i := range len(magnitude) {
		m = m<<8 | uint64(magnitude[i])
	}
	// Below 0 there is one magnitude more than above it.
	if below {
		return int64(-m), m <= 1<<63
	}
	return int64(m), m < 1<<63
}

// cutText gets as GetText does, but what is behind the text is a piece of s.
func cutText(s string) (string, string, api.Errno) {
	length, rest, err := cutLength(s, api.MaxText)
	if err != api.OK {
		return "", "", err
	}
	if len(rest) < length {
		return "", "", api.ErrShort
	}
	return strings.Clone(rest[:length]), rest[length:], api.OK
}

// cutLength gets how many bytes, or parts, there are, and what is behind that, as a piece of s.
func cutLength(s string, most int64) (int, string, api.Errno) {
	n, rest, err := cutNum(s)
	switch {
	case err != api.OK:
		return 0, "", err
	case n < 0:
		return 0, "", api.ErrCode
	case n > most:
		return 0, "", api.ErrLong
	}
	return int(n), rest, api.OK
}

// putList is how many parts there are, and each one's bytes, as put tells them.
func putList[P any](l []P, put func(P) (string, api.Errno)) (string, api.Errno) {
	if len(l) > api.MaxList {
		return "", api.ErrLong
	}
	var all strings.Builder
	all.WriteString(Num(int64(len(l))))
	for _, part := range l {
		s, err := put(part)
		if err != api.OK {
			return "", err
		}
		all.WriteString(s)
	}
	return all.String(), api.OK
}

// getList gets a list of parts that s begins with, each one by cut, and what is behind it.
func getList[P any](s string, cut func(string) (P, string, api.Errno)) ([]P, string, api.Errno) {
	count, rest, err := cutLength(s, api.MaxList)
	if err != api.OK {
		return nil, "", err
	}
	var l []P
	for range count {
		var part P
		part, rest, err = cut(rest)
		if err != api.OK {
			return nil, "", err
		}
		l = append(l, part)
	}
	return l, strings.Clone(rest), api.OK
}
