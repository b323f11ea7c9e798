// Package sum has check sums, and frames: see ../../shared/DOC.md and doc/02-sum.md.
package sum

import (
	"strings"

	"bellman/api"
	"bellman/wire"
)

const (
	sumLong = 4 // bytes of a sum
	numLong = 9 // bytes of a number, at most
)

// fourBits is what four bits put in, when they have been shifted out.
var fourBits = [16]uint32{
	0x00000000, 0x105ec76f, 0x20bd8ede, 0x30e349b1,
	0x417b1dbc, 0x5125dad3, 0x61c69362, 0x7198540d,
	0x82f63b78, 0x92a8fc17, 0xa24bb5a6, 0xb21572c9,
	0xc38d26c4, 0xd3d3e1ab, 0xe330a81a, 0xf36e6f75,
}

// Of is s's sum.
func Of(s string) uint32 {
	return On(0, s)
}

// On is the sum of some bytes, whose own is sum, and of s behind them.
func On(sum uint32, s string) uint32 {
	there := ^sum
	for i := range len(s) {
		there ^= uint32(s[i])
		there = there>>4 ^ fourBits[there&15]
		there = there>>4 ^ fourBits[there&15]
	}
	return ^there
}

// Frame is how many bytes s has, their sum, and they.
func Frame(s string) (string, api.Errno) {
	if len(s) > api.MaxFrame {
		return "", api.ErrLong
	}
	return wire.Num(int64(len(s))) + sumBytes(Of(s)) + s, api.OK
}

// Next is the data of a frame that s begins with, and what is behind it.
func Next(s string) (string, string, api.Errno) {
	length, head, err := readLength(s)
	if err != api.OK {
		return "", "", err
	}
	begin := head + sumLong
	if len(s) < begin+length {
		return "", "", api.ErrShort
	}
	data := s[begin : begin+length]
	if s[head:begin] != sumBytes(Of(data)) {
		return "", "", api.ErrSum
	}
	return strings.Clone(data), strings.Clone(s[begin+length:]), api.OK
}

// Fold is the sum of all texts, one behind the other.
func Fold(l ...string) uint32 {
	sum := Of("")
	for _, s := range l {
		sum = On(sum, s)
	}
	return sum
}

// readLength is how many bytes of data a frame has, and how many bytes tell that.
func readLength(s string) (length, head int, err api.Errno) {
	// What is behind the number is copied by wire: it is given no more than it needs.
	first := s[:min(len(s), numLong)]
	n, rest, err := wire.GetNum(first)
	switch {
	case err != api.OK:
		return 0, 0, err
	case n < 0:
		return 0, 0, api.ErrCode
	case n > api.MaxFrame:
		return 0, 0, api.ErrLong
	}
	return int(n), len(first) - len(rest), api.OK
}

// sumBytes is a sum's four bytes, the lowest first.
func sumBytes(sum uint32) string {
	var all [sumLong]byte
	for i := range sumLong {
		all[i] = byte(sum >> (8 * i))
	}
	return string(all[:])
}
