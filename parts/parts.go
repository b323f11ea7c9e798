// Package parts has numbers, texts, lists and single bytes that are put, and read, one behind the other.
package parts

import (
	"strings"

	"bellman/api"
	"bellman/wire"
)

const (
	numLong  = 9                             // bytes of a number, at most
	textLong = numLong + api.MaxText         // bytes of a text with its length, at most
	listLong = numLong + numLong*api.MaxList // bytes of a list of numbers, at most
)

// Writer puts parts one behind the other; single bytes, and texts that are bytes already, by what strings.Builder has.
type Writer struct {
	strings.Builder
}

// Nums puts numbers.
func (w *Writer) Nums(l ...int64) {
	for _, n := range l {
		w.WriteString(wire.Num(n))
	}
}

// Texts puts texts, none of which is too long.
func (w *Writer) Texts(l ...string) {
	for _, s := range l {
		put, _ := wire.Text(s)
		w.WriteString(put)
	}
}

// List puts a list of numbers, which is not too long.
func (w *Writer) List(l ...int64) {
	put, _ := wire.Nums(l...)
	w.WriteString(put)
}

// Bit is the number that tells whether something is.
func Bit(is bool) int64 {
	if is {
		return 1
	}
	return 0
}

// Reader reads parts one behind the other from Rest, which is what is there yet; it is Bad, if one could not be read: those behind it are zero then.
type Reader struct {
	Rest string
	Bad  bool
}

// Byte reads one byte.
func (r *Reader) Byte() byte {
	if r.Bad || r.Rest == "" {
		r.Bad = true
		return 0
	}
	b := r.Rest[0]
	r.Rest = r.Rest[1:]
	return b
}

// Num reads a number.
func (r *Reader) Num() int64 {
	// What is behind is copied by wire: it is given no more than it needs.
	first := r.first(numLong)
	n, behind, err := wire.GetNum(first)
	r.read(len(first)-len(behind), err)
	return n
}

// Text reads a text.
func (r *Reader) Text() string {
	first := r.first(textLong)
	s, behind, err := wire.GetText(first)
	r.read(len(first)-len(behind), err)
	return s
}

// List reads a list of numbers.
func (r *Reader) List() []int64 {
	first := r.first(listLong)
	l, behind, err := wire.GetNums(first)
	r.read(len(first)-len(behind), err)
	return l
}

// first is so many bytes of what is there yet, or all of it; nothing, if it is bad.
func (r *Reader) first(many int) string {
	if r.Bad {
		return ""
	}
	return r.Rest[:min(len(r.Rest), many)]
}

// read goes on behind so many bytes, if they could be read.
func (r *Reader) read(many int, err api.Errno) {
	if err != api.OK {
		r.Bad = true
		return
	}
	r.Rest = r.Rest[many:]
}
