package tree_test

import (
	"reflect"
	"slices"
	"strings"
	"testing"
	"unsafe"

	"bellman/api"
	"bellman/tree"
)

func TestExampleOfTheChapter(t *testing.T) { // 11.1, 11.2
	l, err := tree.Parse("{{if a}}x{{else}}y{{end}}")
	if want := nodes(choice("a", nodes(plain("x")), nodes(plain("y")))); !same(l, want) || err != api.OK {
		t.Errorf("it is %s, %d", told(l), err)
	}
}

func TestParseTellsNodes(t *testing.T) { // 11.1, 11.2
	for s, want := range map[string][]api.Node{
		"":                                  nil,
		"x":                                 {plain("x")},
		"Hi {{ name }}!":                    {plain("Hi "), path("name"), plain("!")},
		"{{a.b.c.d}}{{a}}":                  {path("a.b.c.d"), path("a")},
		"{{if a}}{{end}}":                   {choice("a", nil, nil)},
		"{{if a}}{{else}}{{end}}":           {choice("a", nil, nil)},
		"{{if a}}x{{else}}{{end}}":          {choice("a", nodes(plain("x")), nil)},
		"{{if a}}{{else}}y{{end}}":          {choice("a", nil, nodes(plain("y")))},
		"{{each l}}{{this}},{{end}}":        {loop("l", path("this"), plain(","))},
		"{{each l}}{{end}}":                 {loop("l")},
		"x{{if a}}y{{end}}z":                {plain("x"), choice("a", nodes(plain("y")), nil), plain("z")},
		"{{if a}}x{{end}}{{if b}}y{{end}}":  {choice("a", nodes(plain("x")), nil), choice("b", nodes(plain("y")), nil)},
		"{{if a}}{{if b}}x{{else}}y{{end}}": nil,
		"{{if a}}{{if b}}x{{end}}{{else}}y{{ end }}":                          {choice("a", nodes(choice("b", nodes(plain("x")), nil)), nodes(plain("y")))},
		"{{if a}}{{if b}}x{{else}}y{{end}}{{end}}":                            {choice("a", nodes(choice("b", nodes(plain("x")), nodes(plain("y")))), nil)},
		"{{if a}}x{{else}}{{if b}}y{{else}}z{{end}}{{end}}":                   {choice("a", nodes(plain("x")), nodes(choice("b", nodes(plain("y")), nodes(plain("z")))))},
		"{{each a}}{{if this}}x{{else}}{{each this}}y{{end}}{{end}}z{{end}}{": {loop("a", choice("this", nodes(plain("x")), nodes(loop("this", plain("y")))), plain("z")), plain("{")},
	} {
		wantErr := api.OK
		if s != "" && want == nil {
			wantErr = api.ErrCode
		}
		if l, err := tree.Parse(s); !same(l, want) || err != wantErr {
			t.Errorf("Parse(%s) is %s, %d, not %s, %d", s, told(l), err, told(want), wantErr)
		}
	}
}

func TestNodesTellsStrayTags(t *testing.T) { // 11.1
	for _, l := range [][]api.Tok{
		{end()}, {otherwise()}, {when("a")}, {each("a")},
		{text("x"), end()}, {end(), text("x")}, {variable("a"), otherwise()}, {otherwise(), end()},
		{when("a"), otherwise()}, {when("a"), end(), end()}, {each("a"), end(), end()}, {end(), when("a")}, {when("a"), end(), otherwise()},
		{when("a"), otherwise(), otherwise(), end()},
		{when("a"), otherwise(), text("x"), otherwise(), text("y"), end()},
		{when("a"), otherwise(), when("b"), otherwise(), end(), otherwise(), end()},
		{each("a"), otherwise(), end()},
		{each("a"), text("x"), otherwise(), text("y"), end()},
		{when("a"), each("b"), otherwise(), end(), end()},
		{when("a"), each("b"), text("x"), otherwise(), text("y"), end(), text("z"), end()},
		{when("a"), when("b"), end()}, {each("a"), when("b"), otherwise(), end()}, {when("a"), each("b"), end()},
		{when("a"), end(), end(), when("b"), end()},
	} {
		if all, err := tree.Nodes(l...); len(all) != 0 || err != api.ErrCode {
			t.Errorf("Nodes(%s) is %s, %d, not ErrCode", told(l), told(all), err)
		}
		// Wherever it stands.
		if all, err := tree.Nodes(slices.Concat(toks(variable("b"), when("c")), l, toks(variable("b"), end(), end(), end()))...); len(all) != 0 || err != api.ErrCode {
			t.Errorf("Nodes of %s within others is %s, %d, not ErrCode", told(l), told(all), err)
		}
	}
}

func TestNodesTellsWhatAreNoTokens(t *testing.T) { // 11.1
	for name, wrong := range map[string][]api.Tok{
		"nothing":            {{}},
		"an empty text":      {text("")},
		"a text with {{":     {text("a{{")},
		"a text with Path":   {{Kind: api.TokText, Text: "x", Path: []string{"a"}}},
		"a var without Path": {{Kind: api.TokVar}},
		"an if of if":        {when("if"), end()},
		"an each with Text":  {{Kind: api.TokEach, Text: "x", Path: []string{"a"}}, end()},
		"an end with Path":   {when("a"), {Kind: api.TokEnd, Path: []string{"a"}}},
		"an else with Text":  {when("a"), {Kind: api.TokElse, Text: "x"}, end()},
		"the kind behind":    {{Kind: api.TokCount}},
		"the highest kind":   {{Kind: 255}},
		"two texts":          {text("x"), text("y")},
		"a brace ahead":      {when("a"), text("{"), end()},
	} {
		// That is told ahead of stray tags, and these ahead of what is too deep.
		for _, l := range [][]api.Tok{wrong, append(toks(end()), wrong...), append(slices.Clone(wrong), end()), append(slices.Repeat(toks(when("a")), 300), wrong...)} {
			if all, err := tree.Nodes(l...); len(all) != 0 || err != api.ErrForm {
				t.Errorf("%s: Nodes(%s) is %s, %d, not ErrForm", name, told(l), told(all), err)
			}
		}
	}
}

// opened is what is within so many of the tag, of which each has an end.
func opened(tag []api.Tok, many int, within ...api.Tok) []api.Tok {
	return slices.Concat(slices.Repeat(tag, many), within, slices.Repeat(toks(end()), many))
}

func TestNodesGoAsDeepAsMayBe(t *testing.T) { // 11.1
	tags := [][]api.Tok{{when("a")}, {each("a")}, {when("a"), otherwise()}, {when("a"), variable("b"), otherwise(), text("x")}}
	for _, tag := range tags {
		for _, within := range [][]api.Tok{{}, {when("a"), end()}, {each("a"), end()}, {when("a"), otherwise(), end()}, {variable("a")}, {variable("a"), text("x"), variable("a")}} {
			for many := range 12 {
				checkNodes(t, opened(tag, many, within...))
			}
		}
	}
	for _, c := range []struct {
		l    []api.Tok
		want api.Errno
	}{
		{opened(tags[0], 8), api.OK},
		{opened(tags[0], 9), api.ErrDeep},
		{opened(tags[0], 7, variable("a")), api.OK},
		{opened(tags[0], 8, variable("a")), api.ErrDeep},
		{opened(tags[0], 8, otherwise()), api.OK},
		{opened(tags[0], 8, otherwise(), text("x")), api.ErrDeep},
		{opened(tags[1], 8), api.OK},
		{opened(tags[1], 8, text("x")), api.ErrDeep},
		{opened(tags[2], 8), api.OK},
		{opened(tags[2], 8, variable("a")), api.ErrDeep},
		{opened(tags[3], 7, text("x")), api.ErrForm},
		{opened(tags[3], 7), api.OK},
		{opened(tags[3], 8), api.ErrDeep},
		{slices.Repeat(opened(tags[0], 8), 32), api.OK},
		{append(slices.Repeat(opened(tags[0], 8), 32), variable("a")), api.ErrDeep},
		// Stray tags are told ahead of what is too deep, wherever they stand.
		{append(opened(tags[0], 9), end()), api.ErrCode},
		{append(opened(tags[1], 9), otherwise()), api.ErrCode},
		{append(opened(tags[0], 9), when("a")), api.ErrCode},
		{opened(tags[1], 9, otherwise()), api.ErrCode},
		{slices.Repeat(toks(when("a")), 1<<17), api.ErrCode},
		{slices.Repeat(toks(each("a")), 1<<17), api.ErrCode},
		{opened(tags[0], 1<<17), api.ErrDeep},
		{opened(tags[1], 1<<17, variable("a")), api.ErrDeep},
		{opened(tags[2], 1<<17, variable("a")), api.ErrDeep},
		{append(opened(tags[0], 1<<17), end()), api.ErrCode},
	} {
		if all, err := tree.Nodes(c.l...); err != c.want || err != api.OK && len(all) != 0 {
			t.Errorf("Nodes(%s) is %s, %d, not %d", told(c.l), told(all), err, c.want)
		}
	}
}

func TestNodesAreAsManyAsMayBe(t *testing.T) { // 11.1
	a := toks(variable("a"))
	for _, c := range []struct {
		l    []api.Tok
		want api.Errno
	}{
		{slices.Repeat(a, 256), api.OK},
		{slices.Repeat(a, 257), api.ErrDeep},
		{slices.Repeat(a, 100000), api.ErrDeep},
		{slices.Repeat(toks(variable("a"), text("x")), 128), api.OK},
		{append(slices.Repeat(toks(variable("a"), text("x")), 128), variable("a")), api.ErrDeep},
		{opened(toks(each("a")), 1, slices.Repeat(a, 255)...), api.OK},
		{opened(toks(each("a")), 1, slices.Repeat(a, 256)...), api.ErrDeep},
		{slices.Repeat(toks(when("a"), otherwise(), end()), 256), api.OK},
		{slices.Repeat(toks(when("a"), otherwise(), end()), 257), api.ErrDeep},
		{slices.Repeat(toks(each("a"), end()), 256), api.OK},
		{slices.Repeat(toks(each("a"), end()), 257), api.ErrDeep},
		{append(slices.Repeat(a, 257), otherwise()), api.ErrCode},
	} {
		all, err := tree.Nodes(c.l...)
		if err != c.want || err == api.OK && manyOf(all) != 256 || err != api.OK && len(all) != 0 {
			t.Errorf("Nodes(%s) is %d nodes, %d, not %d", told(c.l), manyOf(all), err, c.want)
		}
	}
}

func TestParseTellsWhatIsWrong(t *testing.T) { // 11.2
	for s, want := range map[string]api.Errno{
		strings.Repeat("x", 1024):             api.OK,
		strings.Repeat("x", 1025):             api.ErrLong,
		"{{end}}" + strings.Repeat("x", 1018): api.ErrLong,
		"{{A}}" + strings.Repeat("x", 1020):   api.ErrLong,
		"{{":                                  api.ErrCode,
		"{{if}}{{end}}":                       api.ErrCode,
		"{{a b}}":                             api.ErrCode,
		"{{end}}":                             api.ErrCode,
		"{{else}}":                            api.ErrCode,
		"{{if a}}":                            api.ErrCode,
		"{{each a}}x":                         api.ErrCode,
		"{{each a}}{{else}}{{end}}":           api.ErrCode,
		strings.Repeat("{{if a}}", 8) + strings.Repeat("{{end}}", 8):        api.OK,
		strings.Repeat("{{if a}}", 9) + strings.Repeat("{{end}}", 9):        api.ErrDeep,
		strings.Repeat("{{if a}}", 8) + "x" + strings.Repeat("{{end}}", 8):  api.ErrDeep,
		strings.Repeat("{{if a}}", 9) + strings.Repeat("{{end}}", 10):       api.ErrCode,
		strings.Repeat("{{if a}}", 9) + strings.Repeat("{{end}}", 9) + "{{": api.ErrCode,
		strings.Repeat("x{{a}}", 128):                                       api.OK,
		strings.Repeat("x{{a}}", 128) + "x":                                 api.ErrDeep,
		strings.Repeat("x{{a}}", 128) + "x{{end}}":                          api.ErrCode,
	} {
		if l, err := tree.Parse(s); err != want || err != api.OK && len(l) != 0 {
			t.Errorf("Parse(%.100s) is %s, %d, not %d", s, told(l), err, want)
		}
	}
}

func TestWriteTellsTheText(t *testing.T) { // 11.2
	for want, l := range map[string][]api.Node{
		"":                            nil,
		"Hi {{name}}! {":              {plain("Hi "), path("name"), plain("! {")},
		"{{if a.b}}{{end}}":           {choice("a.b", nil, nil)},
		"{{if a}}x{{else}}y{{end}}":   {choice("a", nodes(plain("x")), nodes(plain("y")))},
		"{{if a}}{{else}}y{{end}}":    {choice("a", nil, nodes(plain("y")))},
		"{{each l}}{{this}},{{end}}.": {loop("l", path("this"), plain(",")), plain(".")},
		strings.Repeat("x", 1024):     {plain(strings.Repeat("x", 1024))},
		strings.Repeat("x{{a}}", 128): slices.Repeat(nodes(plain("x"), path("a")), 128),
		"{{if a}}" + strings.Repeat("x", 1009) + "{{end}}": {choice("a", nodes(plain(strings.Repeat("x", 1009))), nil)},
	} {
		if s, err := tree.Write(l); s != want || err != api.OK {
			t.Errorf("Write(%s) is %q, %d, not %q", told(l), s, err, want)
		}
	}
	for _, l := range [][]api.Node{
		{plain(strings.Repeat("x", 1025))},
		{choice("a", nodes(plain(strings.Repeat("x", 1010))), nil)},
		{loop("a", plain(strings.Repeat("x", 1008)))},
		slices.Repeat(nodes(path("a")), 205),
		{plain(strings.Repeat("x", 100000))},
	} {
		if s, err := tree.Write(l); s != "" || err != api.ErrLong {
			t.Errorf("Write(%s) is %.100q, %d, not ErrLong", told(l), s, err)
		}
	}
}

func TestTextsAreWrittenWithoutNeedlessParts(t *testing.T) { // 11.2, 11.4
	for s, want := range map[string]string{
		"{{ if  a }}x{{ else }}{{ end }}":  "{{if a}}x{{end}}",
		"{{if a}}{{else}}{{end}}":          "{{if a}}{{end}}",
		"{{each  a.b }}{{ this }}{{end }}": "{{each a.b}}{{this}}{{end}}",
	} {
		l, _ := tree.Parse(s)
		again, err := tree.Write(l)
		if again != want || err != api.OK {
			t.Errorf("Write of Parse(%s) is %s, %d", s, again, err)
		}
		if m, err := tree.Parse(again); !same(m, l) || err != api.OK {
			t.Errorf("Parse(%s) is %s, %d, not %s", again, told(m), err, told(l))
		}
	}
}

func TestPathsTellsWords(t *testing.T) { // 11.2
	for _, c := range []struct {
		l    []api.Node
		want []string
	}{
		{nil, nil},
		{nodes(plain("a")), nil},
		{nodes(path("a")), []string{"a"}},
		{nodes(path("a.b.c.d"), plain("x"), path("a")), []string{"a.b.c.d", "a"}},
		{nodes(path("b"), path("a"), path("b"), path("b.a")), []string{"b", "a", "b", "b.a"}},
		{nodes(choice("z", nodes(path("y")), nodes(path("x"))), path("w")), []string{"z", "y", "x", "w"}},
		{nodes(choice("z", nil, nodes(path("x")))), []string{"z", "x"}},
		{nodes(loop("l", path("this.a"), path("this"))), []string{"l", "this.a", "this"}},
		{nodes(loop("c", choice("b", nodes(loop("b")), nodes(path("c"))), path("a")), path("a")), []string{"c", "b", "b", "c", "a", "a"}},
	} {
		if words, err := tree.Paths(c.l); !slices.Equal(words, c.want) || err != api.OK {
			t.Errorf("Paths(%s) is %q, %d, not %q", told(c.l), words, err, c.want)
		}
	}
	for _, l := range rights() {
		var want []string
		for _, k := range tokensOf(l) {
			if k.Kind != api.TokText && k.Kind != api.TokElse && k.Kind != api.TokEnd {
				want = append(want, strings.Join(k.Path, "."))
			}
		}
		if words, err := tree.Paths(l); !slices.Equal(words, want) || err != api.OK {
			t.Fatalf("Paths(%s) is %q, %d, not %q", told(l), words, err, want)
		}
	}
}

// memory is where lists and texts are.
type memory []unsafe.Pointer

func (m *memory) text(s string) {
	if s != "" {
		*m = append(*m, unsafe.Pointer(unsafe.StringData(s)))
	}
}

func (m *memory) texts(l []string) {
	if len(l) > 0 {
		*m = append(*m, unsafe.Pointer(unsafe.SliceData(l)))
	}
	for _, s := range l {
		m.text(s)
	}
}

func (m *memory) tokens(l []api.Tok) {
	*m = append(*m, unsafe.Pointer(unsafe.SliceData(l)))
	for _, t := range l {
		m.text(t.Text)
		m.texts(t.Path)
	}
}

func (m *memory) nodes(l []api.Node) {
	if len(l) > 0 {
		*m = append(*m, unsafe.Pointer(unsafe.SliceData(l)))
	}
	for _, n := range l {
		m.text(n.Text)
		m.texts(n.Path)
		m.nodes(n.Kids)
		m.nodes(n.Else)
	}
}

// source has each kind of a node, and the same ones twice.
const source = "some text{{if a.b}}x{{a.b}}{{each list}}{{this}},{{end}}{{else}}x{{each list}}{{this}},{{end}}{{end}}"

func TestAnswersAreNewMemory(t *testing.T) { // 11.3
	s := strings.Clone(source)
	var m memory
	for range 2 {
		l, _ := tree.Parse(s)
		m.nodes(l)
		all, _ := tree.Tokens(l)
		m.tokens(all)
		words, _ := tree.Paths(l)
		m.texts(words)
		again, _ := tree.Nodes(all...)
		m.nodes(again)
		written, _ := tree.Write(l)
		m.text(written)
	}
	alone := nodes(plain(strings.Clone("alone")))
	m.nodes(alone)
	written, _ := tree.Write(alone)
	m.text(written)
	single := nodes(path(strings.Clone("name")))
	m.nodes(single)
	words, _ := tree.Paths(single)
	m.texts(words)
	seen := map[unsafe.Pointer]bool{}
	begin := uintptr(unsafe.Pointer(unsafe.StringData(s)))
	for _, p := range m {
		if seen[p] {
			t.Error("an answer shares memory")
		}
		if at := uintptr(p); at >= begin && at < begin+uintptr(len(s)) {
			t.Error("an answer is a piece of what was handed in")
		}
		seen[p] = true
	}
}

func TestListsOfNodesDoNotRunIntoOneAnother(t *testing.T) { // 11.3
	l, _ := tree.Parse(source)
	want := deep(l)
	for _, list := range [][]api.Node{l, l[1].Kids, l[1].Else, l[1].Kids[2].Kids} {
		_ = append(list, plain("changed"))
		_ = append(list[0].Path, "changed")
	}
	if !same(l, want) {
		t.Errorf("a list runs into another one: %s", told(l))
	}
	all, _ := tree.Tokens(l)
	all[0].Text, all[1].Path[0] = "changed", "changed"
	if !same(l, want) {
		t.Errorf("what was handed in was changed: %s", told(l))
	}
}

func TestWhatIsHandedInStays(t *testing.T) { // 11.3
	spare := nodes(plain("x"), choice("a.b", nodes(path("c"), plain("spare")), nodes(plain("y"))), plain("spare"))
	spare[1].Kids = spare[1].Kids[:1]
	was := deep(spare)
	l := spare[:2]
	all, _ := tree.Tokens(l)
	kept := slices.Clone(all)
	for range 2 {
		tree.Check(l)
		tree.Write(l)
		tree.Paths(l)
		tree.Nodes(all...)
	}
	if !same(spare, was) || spare[1].Kids[:2][1].Text != "spare" || !reflect.DeepEqual(all, kept) {
		t.Error("what was handed in was changed")
	}
	one, _ := tree.Nodes(all...)
	one[1].Kids[0].Path[0], one[1].Else[0].Text = "changed", "changed"
	if two, _ := tree.Nodes(all...); !same(two, l) {
		t.Errorf("an answer hangs on an earlier one: %s", told(two))
	}
}
