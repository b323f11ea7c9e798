// Package parts has numbers, texts and single bytes that are read one behind the other.
package parts

import (
	"bellman/api"
	"bellman/wire"
)

const (
	numLong  = 9                     // bytes of a number, at most
	textLong = numLong + api.MaxText // bytes of a text with its length, at most
)

// Reader reads parts one behind the other from Rest, which is what is there yet; it is Bad, if one could not be read: those behind it are zero then.
type Reader struct {
	Rest string
	Bad  bool
}

// Byte reads one byte.
func (r *Reader) Byte() byte {
	if r.Bad || r.Rest == "" {
		r.Bad = true
		return 0
	}
	b := r.Rest[0]
	r.Rest = r.Rest[1:]
	return b
}

// Num reads a number.
func (r *Reader) Num() int64 {
	// What is behind is copied by wire: it is given no more than it needs.
	first := r.first(numLong)
	n, behind, err := wire.GetNum(first)
	r.read(len(first)-len(behind), err)
	return n
}

// Text reads a text.
func (r *Reader) Text() string {
	first := r.first(textLong)
	s, behind, err := wire.GetText(first)
	r.read(len(first)-len(behind), err)
	return s
}

// first is so many bytes of what is there yet, or all of it; nothing, if it is bad.
func (r *Reader) first(many int) string {
	if r.Bad {
		return ""
	}
	return r.Rest[:min(len(r.Rest), many)]
}

// read goes on behind so many bytes, if they could be read.
func (r *Reader) read(many int, err api.Errno) {
	if err != api.OK {
		r.Bad = true
		return
	}
	r.Rest = r.Rest[many:]
}
