package render_test

import (
	"math/rand"
	"slices"
	"strconv"
	"strings"
	"testing"

	"bellman/api"
	"bellman/esc"
	"bellman/render"
	"bellman/tree"
	"bellman/value"
)

// happened is what happens as nodes are filled: a node is begun, if there is neither; else a text comes, or it stops.
type happened struct {
	text  string
	begun bool
	stops api.Errno
}

// telling is what happens, as far as it may matter, as nodes are filled for a channel.
type telling struct {
	all     []happened
	channel api.Channel
}

func (m *telling) text(s string) {
	m.all = append(m.all, happened{text: s})
}

func (m *telling) escaped(s string) {
	s, _ = esc.To(m.channel, s)
	m.text(s)
}

// nodes tells of nodes, the values round them from the innermost one on.
func (m *telling) nodes(l []api.Node, round []api.Value) {
	for _, n := range l {
		if len(m.all) > 20000 {
			return
		}
		m.all = append(m.all, happened{begun: true})
		meant, err := meaning(n.Path, round)
		switch n.Kind {
		case api.TokText:
			if m.channel == api.ChannelEmail {
				m.text(n.Text)
			} else {
				m.escaped(n.Text)
			}
		case api.TokVar:
			shown, _ := value.Show(meant)
			m.all = append(m.all, happened{stops: err})
			m.escaped(shown)
		case api.TokIf:
			if holds, _ := value.Holds(meant); holds {
				m.nodes(n.Kids, round)
			} else {
				m.nodes(n.Else, round)
			}
		case api.TokEach:
			if err == api.OK && meant.Kind != api.ValueList {
				err = api.ErrCode
			}
			m.all = append(m.all, happened{stops: err})
			if err == api.OK {
				for _, item := range meant.Items {
					m.nodes(n.Kids, append([]api.Value{item}, round...))
				}
			}
		}
	}
}

// meaning is what a path means, the values round it from the innermost one on.
func meaning(path []string, round []api.Value) (api.Value, api.Errno) {
	if len(path) == 0 {
		return api.Value{}, api.ErrNone
	}
	if path[0] == "this" && len(round) == 1 {
		return api.Value{}, api.ErrNone
	}
	if path[0] == "this" {
		return value.Find(round[0], path[1:]...)
	}
	for _, v := range round {
		if _, err := value.Find(v, path[0]); err == api.OK {
			return value.Find(v, path...)
		}
	}
	return api.Value{}, api.ErrNone
}

// filled is what all that happens comes to.
func filled(l []api.Node, v api.Value, c api.Channel) (string, api.Errno) {
	m := telling{channel: c}
	m.nodes(l, []api.Value{v})
	most, _ := esc.Most(c)
	text, steps := "", 0
	for _, one := range m.all {
		if one.begun {
			steps++
		}
		text += one.text
		if one.stops != api.OK {
			return "", one.stops
		}
		if steps > 4096 || len(text) > most {
			return "", api.ErrLong
		}
	}
	return text, api.OK
}

var names = []string{"a", "b", "l", "m", "this"}

// chance is any right value of so many levels at most.
func chance(r *rand.Rand, levels int) api.Value {
	kind := r.Intn(8)
	if levels == 1 {
		kind = r.Intn(3)
	}
	switch kind {
	case 0:
		return text([]string{"", "x", "<&>", "\u00e9\"", "a\n", strings.Repeat("long", 1+r.Intn(100))}[r.Intn(6)])
	case 1:
		return num(int64(r.Intn(30) - 10))
	case 2:
		return boolean(int64(r.Intn(2)))
	case 3, 4, 5:
		v := list()
		for range r.Intn(5) {
			v.Items = append(v.Items, chance(r, levels-1))
		}
		return v
	}
	v := object("")
	for _, name := range names {
		if r.Intn(3) > 0 {
			v.Names = append(v.Names, name)
			v.Items = append(v.Items, chance(r, levels-1))
		}
	}
	return v
}

// template is the text of any template of so many levels at most.
func template(r *rand.Rand, levels int) string {
	var all strings.Builder
	if levels == 0 {
		return ""
	}
	for range 1 + r.Intn(4) {
		word := names[r.Intn(len(names))]
		for r.Intn(6) == 0 {
			word += "." + names[r.Intn(len(names))]
		}
		switch r.Intn(5) {
		case 0:
			all.WriteString([]string{"x", "<b>", "\u00e9", "\"\n"}[r.Intn(4)])
		case 1:
			all.WriteString("{{if " + word + "}}{{" + word + "}}{{else}}-{{end}}")
		case 2:
			all.WriteString("{{if " + word + "}}" + template(r, levels-1) + "{{else}}" + template(r, levels-1) + "{{end}}")
		case 3:
			all.WriteString("{{each " + word + "}}" + template(r, levels-1) + "{{end}}")
		case 4:
			all.WriteString("{{" + word + "}}")
		}
	}
	return all.String()
}

func TestFillTellsAnyTemplates(t *testing.T) { // 14.1
	r := rand.New(rand.NewSource(14))
	answers := map[api.Errno]int{}
	for range 40000 {
		s, v, c := template(r, 1+r.Intn(5)), chance(r, 1+r.Intn(4)), channels[r.Intn(3)]
		if r.Intn(2) == 0 {
			v = object("a b l m", text(strings.Repeat("long", r.Intn(100))), chance(r, 3), chance(r, 3), chance(r, 4))
		}
		l, err := tree.Parse(s)
		if err != api.OK || value.Check(v) != api.OK {
			continue
		}
		want, no := filled(l, v, c)
		answers[no]++
		if want != "" {
			answers[-1]++
		}
		if got, err := render.Fill(l, v, c); got != want || err != no {
			t.Fatalf("Fill of %s with %v for %d is %q, %d, not %q, %d", s, v, c, got, err, want, no)
		}
		if got, err := render.Text(s, v, c); got != want || err != no {
			t.Fatalf("Text of %s with %v for %d is %q, %d, not %q, %d", s, v, c, got, err, want, no)
		}
	}
	for no, least := range map[api.Errno]int{-1: 4000, api.OK: 4000, api.ErrNone: 4000, api.ErrCode: 1000, api.ErrLong: 300} {
		if answers[no] < least {
			t.Errorf("only %d answers are %d", answers[no], no)
		}
	}
}

func TestMeansTellsAnyPaths(t *testing.T) { // 14.2
	r := rand.New(rand.NewSource(15))
	found := 0
	for range 40000 {
		var path []string
		for range r.Intn(4) {
			path = append(path, names[r.Intn(len(names))])
		}
		round := []api.Value{chance(r, 4)}
		for range r.Intn(4) {
			round = append(round, chance(r, 4))
		}
		items := slices.Clone(round[:len(round)-1])
		slices.Reverse(items)
		want, no := meaning(path, round)
		if no == api.OK {
			found++
		}
		if got, err := render.Means(path, round[len(round)-1], items...); !same(got, want) || err != no {
			t.Fatalf("Means of %q in %v is %v, %d, not %v, %d", path, round, got, err, want, no)
		}
	}
	if found < 4000 {
		t.Errorf("only %d mean something", found)
	}
}

func TestNodesWithoutPathsAreTheirTexts(t *testing.T) { // 14.4
	for _, s := range []string{"", "x", " some text }} { ", "<b> & \"x\"\n\t\\", "caf\u00e9\x00\x7f\xff"} {
		for _, c := range channels {
			want, _ := esc.To(c, s)
			if c == api.ChannelEmail {
				want = s
			}
			for _, v := range []api.Value{num(1), text(""), object("x", list())} {
				checkText(t, s, v, c, want, api.OK)
			}
		}
	}
	for _, l := range [][]api.Node{nil, {}} {
		if got, err := render.Fill(l, object(""), api.ChannelSms); got != "" || err != api.OK {
			t.Errorf("Fill of no nodes is %q, %d", got, err)
		}
	}
}

func TestTwoTemplatesAreFilledAsEach(t *testing.T) { // 14.5
	r := rand.New(rand.NewSource(16))
	both := 0
	for range 30000 {
		v, c := chance(r, 4), channels[r.Intn(3)]
		one, err1 := tree.Parse(template(r, 3))
		two, err2 := tree.Parse(template(r, 3))
		l := slices.Concat(one, two)
		most, _ := esc.Most(c)
		first, no1 := render.Fill(one, v, c)
		second, no2 := render.Fill(two, v, c)
		if err1 != api.OK || err2 != api.OK || tree.Check(l) != api.OK || len(first+second) > most {
			continue
		}
		if first != "" && second != "" {
			both++
		}
		got, err := render.Fill(l, v, c)
		switch {
		case no1 != api.OK && (got != "" || err != no1):
			t.Fatalf("Fill of two is %q, %d, but of the first one %d", got, err, no1)
		case no1 == api.OK && no2 != api.OK && (got != "" || err == api.OK):
			t.Fatalf("Fill of two is %q, %d, but of the second one %d", got, err, no2)
		case no1 == api.OK && no2 == api.OK && (got != first+second || err != api.OK):
			t.Fatalf("Fill of two is %q, %d, not %q and %q", got, err, first, second)
		}
	}
	if both < 1000 {
		t.Errorf("only %d are filled, both", both)
	}
}

func TestShortTextsAreSafe(t *testing.T) { // 14.6
	v := object("a l", text("\x00\x1f\x7f\x80caf\u00e9\n"), list(text("\xff"), text("\t"), object("")))
	for b := range 256 {
		s := string([]byte{byte(b)}) + "{{a}}" + string([]byte{byte(b), byte(b * 7)}) + "{{each l}}{{this}}\u00e9{{end}}{{if a}}\n{{end}}"
		l := parsed(t, strings.ReplaceAll(s, "{{{", "{ {{"))
		got, err := render.Fill(l, v, api.ChannelSms)
		if err != api.OK || got == "" {
			t.Fatalf("Fill of %q is %q, %d", s, got, err)
		}
		for i := range len(got) {
			if got[i] < ' ' || got[i] > '~' {
				t.Fatalf("Fill of %q is %q", s, got)
			}
		}
	}
}

// wrongNodes are nodes that are not right.
func wrongNodes() map[string][]api.Node {
	word := []string{"a"}
	all := map[string][]api.Node{
		"nothing":             {{}},
		"an else":             {{Kind: api.TokElse}},
		"the kind behind":     {{Kind: api.TokCount, Path: word}},
		"an empty text":       {{Kind: api.TokText}},
		"a text with a tag":   {{Kind: api.TokText, Text: "{{a}}"}},
		"two texts":           {{Kind: api.TokText, Text: "x"}, {Kind: api.TokText, Text: "y"}},
		"a var without Path":  {{Kind: api.TokVar}},
		"a var with Text":     {{Kind: api.TokVar, Text: "x", Path: word}},
		"a name that is none": {{Kind: api.TokVar, Path: []string{"A"}}},
		"five names":          {{Kind: api.TokVar, Path: []string{"a", "a", "a", "a", "a"}}},
		"an each with Else":   {{Kind: api.TokEach, Path: word, Else: []api.Node{{Kind: api.TokVar, Path: word}}}},
		"a wrong one within":  {{Kind: api.TokIf, Path: word, Else: []api.Node{{}}}},
		"a node too many":     slices.Repeat([]api.Node{{Kind: api.TokVar, Path: word}}, 257),
	}
	deep := []api.Node{{Kind: api.TokVar, Path: word}}
	for range 8 {
		deep = []api.Node{{Kind: api.TokIf, Path: word, Kids: deep}}
	}
	all["a level too many"] = deep
	for kind := range api.TokCount {
		l := make([]api.Node, 2)
		for i := range l {
			l[i] = api.Node{Kind: kind, Path: word, Kids: l}
		}
		all["itself within, of kind "+strconv.Itoa(int(kind))] = l
	}
	return all
}

func TestFillTellsFirstWhatIsWrong(t *testing.T) { // 14.1
	right, v := parsed(t, "x{{a}}"), object("a", num(1))
	some := []api.Channel{api.ChannelNone, api.ChannelPush, api.ChannelEmail, api.ChannelSms, api.ChannelCount, 255}
	for _, c := range some {
		for name, l := range wrongNodes() {
			for _, v := range []api.Value{v, {}} {
				if got, err := render.Fill(l, v, c); got != "" || err != api.ErrForm {
					t.Errorf("%s: Fill for %d is %q, %d, not ErrForm", name, c, got, err)
				}
			}
		}
		for name, v := range wrongValues() {
			for _, l := range [][]api.Node{right, nil, {{}}} {
				if got, err := render.Fill(l, v, c); got != "" || err != api.ErrForm {
					t.Errorf("%s: Fill for %d is %q, %d, not ErrForm", name, c, got, err)
				}
			}
			if got, err := render.Text("x{{a}}", v, c); got != "" || err != api.ErrForm {
				t.Errorf("%s: Text for %d is %q, %d, not ErrForm", name, c, got, err)
			}
		}
	}
	long := parsed(t, strings.Repeat("x", 1000)+"{{none}}")
	for c := api.ChannelCount; c != 1; c++ { // round to ChannelNone
		for _, l := range [][]api.Node{nil, right, long} {
			if got, err := render.Fill(l, v, c); got != "" || err != api.ErrRange {
				t.Errorf("Fill for %d is %q, %d, not ErrRange", c, got, err)
			}
		}
		if got, err := render.Text("{{none}}", v, c); got != "" || err != api.ErrRange {
			t.Errorf("Text for %d is %q, %d, not ErrRange", c, got, err)
		}
	}
}

func TestTextTellsFirstWhatIsNoTemplate(t *testing.T) { // 14.1
	for s, no := range map[string]api.Errno{
		"{{":                             api.ErrCode,
		"{{a b}}":                        api.ErrCode,
		"{{if a}}":                       api.ErrCode,
		"{{end}}":                        api.ErrCode,
		"{{each a}}{{else}}{{end}}":      api.ErrCode,
		"{{A}}":                          api.ErrCode,
		strings.Repeat("x", 1025):        api.ErrLong,
		strings.Repeat("x", 1025) + "{{": api.ErrLong,
		strings.Repeat("{{if a}}", 9) + strings.Repeat("{{end}}", 9): api.ErrDeep,
	} {
		for _, v := range []api.Value{object("a", num(1)), {}, within(api.ValueList)} {
			for _, c := range append(channels, api.ChannelNone, 9) {
				if got, err := render.Text(s, v, c); got != "" || err != no {
					t.Errorf("Text of %.50q is %q, %d, not %d", s, got, err, no)
				}
			}
		}
	}
}

func TestLargeValuesAtEachStep(t *testing.T) { // 14.1
	l := list()
	for range 250 {
		l.Items = append(l.Items, text(strings.Repeat("x", api.MaxText)))
	}
	v := object("l", l)
	checkText(t, "{{each l}}"+strings.Repeat("{{if l}}{{end}}", 16)+"{{end}}{{each l}}{{end}}", v, api.ChannelSms, "", api.OK)
	checkText(t, "{{each l}}"+strings.Repeat("{{each l}}{{end}}", 16)+"{{end}}{{l}}", v, api.ChannelSms, "250", api.OK)
	checkText(t, "{{each l}}"+strings.Repeat("{{if this}}{{end}}", 16)+"{{end}}{{each l}}{{this}}{{end}}", v, api.ChannelSms, "", api.ErrLong)
}
