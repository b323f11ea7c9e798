package value

import (
	"bellman/api"
	"bellman/parts"
)

// reader reads values; there is room for so many more.
type reader struct {
	parts.Reader
	room int
}

// value reads a value. Whether it is right is for Check to tell; the room bounds its levels, too.
func (r *reader) value() api.Value {
	r.room--
	if r.room < 0 {
		r.Bad = true
	}
	v := api.Value{Kind: api.ValueKind(r.Byte())}
	switch v.Kind {
	case api.ValueText:
		v.Text = r.Text()
	case api.ValueBool:
		fallthrough
	case api.ValueNum:
		v.Num = r.Num()
	case api.ValueList, api.ValueMap:
		r.items(&v)
	}
	return v
}

// items reads how many Items v has, and each one, its name ahead if it has one.
func (r *reader) items(v *api.Value) {
	many := r.Num()
	if many < 0 {
		r.Bad = true
	}
	for ; many > 0 && !r.Bad; many-- {
		if v.Kind == api.ValueMap {
			v.Names = append(v.Names, r.Text())
		}
		v.Items = append(v.Items, r.value())
	}
}
