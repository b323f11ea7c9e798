package esc

import (
	"strconv"
	"strings"

	"bellman/api"
)

const (
	mark   = '\\'
	code   = `\u00`             // two digits are behind it
	coded  = len(code) + 2      // bytes of a byte told by its digits
	digits = "0123456789abcdef" // of such a byte
	last   = '~'                // the highest byte that a short text may have
	erase  = 127                // a byte that is told by its digits, too
	named  = `&<>"'`            // the bytes that have names in a mail
)

// toPush is s for ChannelPush.
func toPush(s string) string {
	var all strings.Builder
	for i := range len(s) {
		switch b := s[i]; {
		case b == '\n':
			all.WriteString(`\n`)
		case b == '\t':
			all.WriteString(`\t`)
		case b < ' ' || b == erase:
			all.WriteString(code)
			all.WriteByte(digits[b>>4])
			all.WriteByte(digits[b&15])
		case b == '"' || b == mark:
			all.WriteByte(mark)
			fallthrough
		default:
			all.WriteByte(b)
		}
	}
	return all.String()
}

// toEmail is s for ChannelEmail.
func toEmail(s string) string {
	var all strings.Builder
	for i := range len(s) {
		if name := nameOf(s[i]); name != "" {
			all.WriteString(name)
		} else {
			all.WriteByte(s[i])
		}
	}
	return all.String()
}

// toSms is s for ChannelSms.
func toSms(s string) string {
	var all strings.Builder
	inRun := false
	for i := range len(s) {
		b := s[i]
		if b == '\n' || b == '\t' {
			b = ' '
		}
		plain := b >= ' ' && b <= last
		if plain {
			all.WriteByte(b)
		} else if !inRun {
			all.WriteByte('?')
		}
		inRun = !plain
	}
	return all.String()
}

// nameOf is how a byte stands in a mail; empty, if as it is.
func nameOf(b byte) string {
	switch b {
	case '&':
		return "&amp;"
	case '<':
		return "&lt;"
	case '>':
		return "&gt;"
	case '"':
		return "&quot;"
	case '\'':
		return "&#39;"
	}
	return ""
}

// from is the only text that may be s for a channel that there is. It takes what is no text's at all for some text's: To tells then that it isn't.
func from(c api.Channel, s string) string {
	switch c {
	case api.ChannelPush:
		return undone(s, firstOfPush)
	case api.ChannelEmail:
		return undone(s, firstOfEmail)
	}
	return strings.Clone(s)
}

// undone is the bytes that s tells; first is the one that a text begins with, and how many bytes tell it.
func undone(s string, first func(string) (byte, int)) string {
	var all strings.Builder
	for s != "" {
		b, many := first(s)
		all.WriteByte(b)
		s = s[many:]
	}
	return all.String()
}

// firstOfPush is the byte that s begins with, and how many bytes tell it.
func firstOfPush(s string) (byte, int) {
	if s[0] != mark || len(s) == 1 {
		return s[0], 1
	}
	switch s[1] {
	case 'n':
		return '\n', 2
	case 't':
		return '\t', 2
	}
	if !strings.HasPrefix(s, code) || len(s) < coded {
		return s[1], 2
	}
	b, _ := strconv.ParseUint(s[len(code):coded], 16, 8)
	return byte(b), coded
}

// firstOfEmail is the byte that s begins with, and how many bytes tell it.
func firstOfEmail(s string) (byte, int) {
	for i := range len(named) {
		if name := nameOf(named[i]); strings.HasPrefix(s, name) {
			return named[i], len(name)
		}
	}
	return s[0], 1
}
