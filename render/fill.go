package render

import (
	"errors"
	"slices"
	"strconv"
	"strings"

	"bellman/api"
	"bellman/esc"
	"bellman/value"
)

// this is the name of the innermost item.
const this = "this"

// stop is what stops a template: its number, and at which step.
type stop struct {
	number api.Errno
	step   int
}

// text is what is filled yet; there is room for so many bytes more.
type text struct {
	strings.Builder
	room int
}

// filler fills nodes for a channel: so many steps were begun; round are the values round the place where it is, the innermost one last.
type filler struct {
	text
	channel api.Channel
	round   []api.Value
	steps   int
}

// Error tells where it stopped.
func (s stop) Error() string {
	return s.number.Error() + ": step " + strconv.Itoa(s.step)
}

// Unwrap is the number within.
func (s stop) Unwrap() error {
	return s.number
}

// put puts s behind; not ok, if there is no room for it.
func (t *text) put(s string) bool {
	t.room -= len(s)
	if t.room < 0 {
		return false
	}
	t.WriteString(s)
	return true
}

// stop is what stops it here.
func (f *filler) stop(number api.Errno) error {
	return stop{number, f.steps}
}

// fill fills right nodes.
func (f *filler) fill(l []api.Node) error {
	for _, n := range l {
		if err := f.node(n); err != nil {
			return err
		}
	}
	return nil
}

// node fills one.
func (f *filler) node(n api.Node) error {
	f.steps++
	if f.steps > api.MaxSteps {
		return f.stop(api.ErrLong)
	}
	switch n.Kind {
	case api.TokVar:
		return f.shown(n.Path)
	case api.TokIf:
		return f.choice(n)
	case api.TokEach:
		return f.each(n)
	}
	if f.channel == api.ChannelEmail {
		return f.told(n.Text)
	}
	return f.escaped(n.Text)
}

// shown fills in what the path means, as a text.
func (f *filler) shown(path []string) error {
	meant, err := f.means(path)
	if err != nil {
		return err
	}
	s, _ := value.Show(meant)
	return f.escaped(s)
}

// choice fills the Kids, or the Else, of a TokIf.
func (f *filler) choice(n api.Node) error {
	meant, err := f.means(n.Path)
	if errors.Is(err, api.ErrNone) {
		return f.fill(n.Else)
	}
	if holds, _ := value.Holds(meant); holds {
		return f.fill(n.Kids)
	}
	return f.fill(n.Else)
}

// each fills the Kids of a TokEach with each item.
func (f *filler) each(n api.Node) error {
	meant, err := f.means(n.Path)
	if err != nil {
		return err
	}
	if meant.Kind != api.ValueList {
		return f.stop(api.ErrCode)
	}
	for _, item := range meant.Items {
		f.round = append(f.round, item)
		if err := f.fill(n.Kids); err != nil {
			return err
		}
		f.round = f.round[:len(f.round)-1]
	}
	return nil
}

// escaped puts s behind, as the channel carries it.
func (f *filler) escaped(s string) error {
	s, _ = esc.To(f.channel, s)
	return f.told(s)
}

// told puts s behind as it stands.
func (f *filler) told(s string) error {
	if !f.put(s) {
		return f.stop(api.ErrLong)
	}
	return nil
}

// means is what the path means here.
func (f *filler) means(path []string) (api.Value, error) {
	meant, ok := means(path, f.round)
	if !ok {
		return api.Value{}, f.stop(api.ErrNone)
	}
	return meant, nil
}

// means is what the path means in a place that right values stand round, the whole one first, the innermost one last; not ok, if it means nothing. It shares their memory.
func means(path []string, round []api.Value) (api.Value, bool) {
	if len(path) == 0 {
		return api.Value{}, false
	}
	if path[0] == this {
		items := round[1:]
		if len(items) == 0 {
			return api.Value{}, false
		}
		return found(items[len(items)-1], path[1:])
	}
	for _, v := range slices.Backward(round) {
		// None but a map has names.
		if slices.Contains(v.Names, path[0]) {
			return found(v, path)
		}
	}
	return api.Value{}, false
}

// found is what the names find in a right value. It stands here since value.Find looks at all of a value and copies what it finds, each time: a template may ask for a large one at each of its steps.
func found(v api.Value, names []string) (api.Value, bool) {
	for _, name := range names {
		at := slices.Index(v.Names, name)
		if at < 0 {
			return api.Value{}, false
		}
		v = v.Items[at]
	}
	return v, true
}
