package sent

import (
	"strings"

	"bellman/api"
	"bellman/parts"
)

// Encode is m as bytes.
func Encode(m api.Message) (string, api.Errno) {
	if err := Check(m); err != api.OK {
		return "", err
	}
	var w parts.Writer
	w.Nums(m.Id, m.Flow, int64(m.Channel), int64(m.Rank), int64(m.Try), m.At)
	w.Texts(m.User, m.Category, m.Text)
	return w.String(), api.OK
}

// Decode is the message that s begins with, and what is behind it.
func Decode(s string) (api.Message, string, api.Errno) {
	r := parts.Reader{Rest: s}
	m := read(&r)
	put, err := Encode(m)
	// What is bad, or lost some of a number that is too great, has other bytes than were read.
	if err != api.OK || put != s[:len(s)-len(r.Rest)] {
		return api.Message{}, "", api.ErrCode
	}
	return m, strings.Clone(r.Rest), api.OK
}

// read reads a message. Whether it is right, and all that was there, is for Decode to tell.
func read(r *parts.Reader) api.Message {
	var m api.Message
	m.Id = r.Num()
	m.Flow = r.Num()
	m.Channel = api.Channel(r.Num())
	m.Rank = int(r.Num())
	m.Try = int(r.Num())
	m.At = r.Num()
	m.User = r.Text()
	m.Category = r.Text()
	m.Text = r.Text()
	return m
}
