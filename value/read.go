package value

import (
	"bellman/api"
	"bellman/wire"
)

const (
	numLong  = 9                     // bytes of a number, at most
	textLong = numLong + api.MaxText // bytes of a text with its length, at most
)

// parts are read one behind the other from what is there yet; bad, if one could not be read: those behind it are zero then.
type parts struct {
	rest string
	bad  bool
}

// reader reads values; there is room for so many more.
type reader struct {
	parts
	room int
}

// kind reads a value's kind.
func (p *parts) kind() api.ValueKind {
	if p.bad || p.rest == "" {
		p.bad = true
		return api.ValueNone
	}
	k := api.ValueKind(p.rest[0])
	p.rest = p.rest[1:]
	return k
}

// num reads a number.
func (p *parts) num() int64 {
	// What is behind is copied by wire: it is given no more than it needs.
	first := p.first(numLong)
	n, behind, err := wire.GetNum(first)
	p.read(len(first)-len(behind), err)
	return n
}

// text reads a text.
func (p *parts) text() string {
	first := p.first(textLong)
	s, behind, err := wire.GetText(first)
	p.read(len(first)-len(behind), err)
	return s
}

// first is so many bytes of what is there yet, or all of it; nothing, if it is bad.
func (p *parts) first(many int) string {
	if p.bad {
		return ""
	}
	return p.rest[:min(len(p.rest), many)]
}

// read goes on behind so many bytes, if they could be read.
func (p *parts) read(many int, err api.Errno) {
	if err != api.OK {
		p.bad = true
		return
	}
	p.rest = p.rest[many:]
}

// value reads a value. Whether it is right is for Check to tell; the room bounds its levels, too.
func (r *reader) value() api.Value {
	r.room--
	if r.room < 0 {
		r.bad = true
	}
	v := api.Value{Kind: r.kind()}
	switch v.Kind {
	case api.ValueText:
		v.Text = r.text()
	case api.ValueBool:
		fallthrough
	case api.ValueNum:
		v.Num = r.num()
	case api.ValueList, api.ValueMap:
		r.items(&v)
	}
	return v
}

// items reads how many Items v has, and each one, its name ahead if it has one.
func (r *reader) items(v *api.Value) {
	many := r.num()
	if many < 0 {
		r.bad = true
	}
	for ; many > 0 && !r.bad; many-- {
		if v.Kind == api.ValueMap {
			v.Names = append(v.Names, r.text())
		}
		v.Items = append(v.Items, r.value())
	}
}
