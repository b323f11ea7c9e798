package vet_test

import (
	"fmt"
	"math/rand"
	"reflect"
	"slices"
	"strconv"
	"strings"
	"testing"
	"unsafe"

	"bellman/api"
	"bellman/tree"
	"bellman/vet"
)

// parsed are the nodes of a template that is one.
func parsed(t *testing.T, s string) []api.Node {
	t.Helper()
	l, err := tree.Parse(s)
	if err != api.OK {
		t.Fatalf("Parse(%s) is %d", s, err)
	}
	return l
}

// chance is any template of so many levels at most, which has few nodes; it has no braces but those of tags.
func chance(r *rand.Rand, levels int) string {
	words := []string{"a", "b.c", "c", "this", "this.a", "a.this", "if.else", "d.a", "each_"}
	s := ""
	if levels == 0 {
		return s
	}
	for range r.Intn(4) {
		word := words[r.Intn(len(words))]
		switch r.Intn(5) {
		case 0:
			s += []string{"x", "some text", "this", "é "}[r.Intn(4)]
		case 1:
			s += "{{" + word + "}}"
		case 2:
			s += "{{if " + word + "}}" + chance(r, levels-1) + "{{end}}"
		case 3:
			s += "{{if " + word + "}}" + chance(r, levels-1) + "{{else}}" + chance(r, levels-1) + "{{end}}"
		case 4:
			s += "{{each " + word + "}}" + chance(r, levels-1) + "{{end}}"
		}
	}
	return s
}

// templates are any that may be: each edge, and any others.
func templates() []string {
	all := []string{
		"", "x", "{", "{{a}}", "{{this}}", strings.Repeat("x", 1024),
		"{{each items}}{{this.a}}{{b}}{{end}}",
		strings.Repeat("{{if a}}", 8) + strings.Repeat("{{end}}", 8),
		strings.Repeat("{{each a}}", 7) + "{{this}}" + strings.Repeat("{{end}}", 7),
		strings.Repeat("x{{a}}", 128),
	}
	r := rand.New(rand.NewSource(12))
	for i := range 5000 {
		s := chance(r, 1+i%8)
		if _, err := tree.Parse(s); err == api.OK {
			all = append(all, s)
		}
	}
	return all
}

// first is a word's first name.
func first(word string) string {
	return strings.Split(word, ".")[0]
}

// rootsOf are the first names of the words but this, rising, each once.
func rootsOf(words []string) []string {
	var all []string
	for _, word := range words {
		if name := first(word); name != "this" && !slices.Contains(all, name) {
			all = append(all, name)
		}
	}
	slices.Sort(all)
	return all
}

// outside is the nodes without those within a TokEach.
func outside(l []api.Node) []api.Node {
	var all []api.Node
	for _, n := range l {
		n.Kids, n.Else = outside(n.Kids), outside(n.Else)
		if n.Kind == api.TokEach {
			n.Kids = nil
		}
		all = append(all, n)
	}
	return all
}

// sizes are how many levels tokens have, how many nodes they are, and how many bytes their texts have.
func sizes(l []api.Tok) (levels, many, bytes int) {
	open := 0
	for _, t := range l {
		switch t.Kind {
		case api.TokElse:
			continue
		case api.TokEnd:
			open--
			continue
		}
		levels = max(levels, open+1)
		many++
		bytes += len(t.Text)
		if t.Kind == api.TokIf || t.Kind == api.TokEach {
			open++
		}
	}
	return levels, many, bytes
}

func TestExampleOfTheChapter(t *testing.T) { // 12.1
	roots, err := vet.Roots(parsed(t, "{{each items}}{{this.a}}{{b}}{{end}}"))
	if !slices.Equal(roots, []string{"b", "items"}) || err != api.OK {
		t.Errorf("Roots is %q, %d", roots, err)
	}
}

func TestRootsOfTemplates(t *testing.T) { // 12.1
	for s, want := range map[string][]string{
		"":                                      nil,
		"a {b}":                                 nil,
		"{{a}}":                                 {"a"},
		"{{a.b.c.d}}":                           {"a"},
		"{{b}}{{a}}{{b}}{{a.c}}":                {"a", "b"},
		"{{c}}{{b}}{{a}}":                       {"a", "b", "c"},
		"{{a}}{{a0}}{{a_}}{{ab}}":               {"a", "a0", "a_", "ab"},
		"{{this}}":                              nil,
		"{{this.a}}{{if this}}{{end}}":          nil,
		"{{a.this}}{{thisis}}{{thi}}":           {"a", "thi", "thisis"},
		"{{if a}}{{b}}{{else}}{{c}}{{end}}":     {"a", "b", "c"},
		"{{if a}}{{else}}{{c.a}}{{end}}":        {"a", "c"},
		"{{each l}}{{end}}":                     {"l"},
		"{{each l}}{{l}}{{this.m}}{{k}}{{end}}": {"k", "l"},
		"{{each l.m}}{{each this.n}}{{if this}}{{o}}{{else}}{{p.l}}{{end}}{{end}}{{end}}": {"l", "o", "p"},
		"{{each a}}{{each b}}{{each c}}{{d}}{{end}}{{end}}{{end}}":                        {"a", "b", "c", "d"},
		"{{if.a}}{{end.b}}": {"end", "if"},
	} {
		roots, err := vet.Roots(parsed(t, s))
		if !slices.Equal(roots, want) || err != api.OK {
			t.Errorf("Roots of %s is %q, %d, not %q", s, roots, err, want)
		}
	}
}

func TestRootsAreThoseOfAllPaths(t *testing.T) { // 12.1
	for _, s := range templates() {
		l := parsed(t, s)
		words, _ := tree.Paths(l)
		if roots, err := vet.Roots(l); !slices.Equal(roots, rootsOf(words)) || err != api.OK {
			t.Fatalf("Roots of %s is %q, %d", s, roots, err)
		}
	}
}

func TestOnlyTellsOtherNames(t *testing.T) { // 12.1
	for _, c := range []struct {
		s     string
		names []string
		want  api.Errno
	}{
		{"", nil, api.OK},
		{"x", nil, api.OK},
		{"{{a}}", nil, api.ErrName},
		{"{{a}}", []string{"a"}, api.OK},
		{"{{a}}", []string{"b"}, api.ErrName},
		{"{{a}}", []string{"aa", "", "A", "a.b", "a "}, api.ErrName},
		{"{{a.b}}", []string{"a"}, api.OK},
		{"{{a.b}}", []string{"a.b", "b"}, api.ErrName},
		{"{{this}}{{each this.a}}{{end}}", nil, api.OK},
		{"{{each items}}{{this}}{{end}}", []string{"items"}, api.OK},
		{"{{each items}}{{this.a}}{{b}}{{end}}", []string{"items"}, api.ErrName},
		{"{{each items}}{{this.a}}{{b}}{{end}}", []string{"b"}, api.ErrName},
		{"{{each items}}{{this.a}}{{b}}{{end}}", []string{"items", "this"}, api.ErrName},
		{"{{each items}}{{this.a}}{{b}}{{end}}", []string{"items", "b"}, api.OK},
		{"{{if a}}{{else}}{{b}}{{end}}", []string{"a"}, api.ErrName},
		{"{{if a}}{{else}}{{b}}{{end}}", []string{"b", "z", "a", "b"}, api.OK},
		{"{{a}}{{b}}{{c}}", []string{"c", "b", "a"}, api.OK},
		{"{{a}}{{b}}{{c}}", []string{"c", "a"}, api.ErrName},
		{"{{a}}{{b}}{{c}}", []string{"b", "c"}, api.ErrName},
		{"{{a}}", append(slices.Repeat([]string{strings.Repeat("x", 100)}, 1000), "a"), api.OK},
	} {
		if err := vet.Only(parsed(t, c.s), c.names...); err != c.want {
			t.Errorf("Only of %s with %.100q is %d, not %d", c.s, c.names, err, c.want)
		}
	}
}

func TestOnlyWithMoreNames(t *testing.T) { // 12.1, 12.4
	names := []string{"a", "b", "c", "d", "if", "each_", "this", "x"}
	for _, s := range templates()[:1000] {
		l := parsed(t, s)
		roots, _ := vet.Roots(l)
		for set := range 1 << len(names) {
			var some []string
			for i, name := range names {
				if set>>i&1 == 1 {
					some = append(some, name)
				}
			}
			want := api.OK
			for _, root := range roots {
				if !slices.Contains(some, root) {
					want = api.ErrName
				}
			}
			if err := vet.Only(l, some...); err != want {
				t.Fatalf("Only of %s with %q is %d, not %d", s, some, err, want)
			}
		}
		for i := range roots {
			if err := vet.Only(l, slices.Delete(slices.Clone(roots), i, i+1)...); err != api.ErrName {
				t.Fatalf("Only of %s without %s is %d", s, roots[i], err)
			}
		}
		if vet.Only(l, roots...) != api.OK || vet.Only(l, append(names, roots...)...) != api.OK {
			t.Fatalf("Only of %s with its roots isn't OK", s)
		}
	}
}

func TestRootsOfTwoTemplates(t *testing.T) { // 12.4
	all := templates()
	r := rand.New(rand.NewSource(13))
	both := 0
	for range 5000 {
		one, two := all[r.Intn(len(all))], all[r.Intn(len(all))]
		l, err := tree.Parse(one + two)
		if err != api.OK {
			continue
		}
		both++
		roots, err := vet.Roots(l)
		first, _ := vet.Roots(parsed(t, one))
		second, _ := vet.Roots(parsed(t, two))
		if !slices.Equal(roots, rootsOf(append(first, second...))) || err != api.OK {
			t.Fatalf("Roots of %s and %s is %q, %d", one, two, roots, err)
		}
	}
	if both < 1000 {
		t.Errorf("only %d are templates", both)
	}
}

func TestThisStandsForAnItem(t *testing.T) { // 12.1
	for s, want := range map[string]api.Errno{
		"":                                  api.OK,
		"this":                              api.OK,
		"{{a}}{{a.this}}{{if.this}}":        api.OK,
		"{{thi}}{{thiss}}{{this_}}":         api.OK,
		"{{this}}":                          api.ErrName,
		"{{this.a}}":                        api.ErrName,
		"{{if this}}{{end}}":                api.ErrName,
		"{{if this.a.b.c}}x{{else}}{{end}}": api.ErrName,
		"{{each this}}{{end}}":              api.ErrName,
		"{{each this.a}}{{this}}{{end}}":    api.ErrName,
		"{{if a}}{{this}}{{end}}":           api.ErrName,
		"{{if a}}{{else}}{{this}}{{end}}":   api.ErrName,
		"{{if a}}{{if b}}{{else}}{{each this}}{{end}}{{end}}{{end}}":                api.ErrName,
		"{{each a}}{{end}}{{this}}":                                                 api.ErrName,
		"{{this}}{{each a}}{{this}}{{end}}":                                         api.ErrName,
		"{{each a}}{{this}}{{end}}{{if b}}{{else}}{{this}}{{end}}":                  api.ErrName,
		"{{each a}}{{this}}{{end}}":                                                 api.OK,
		"{{each a}}{{this.a}}{{if this}}{{this}}{{else}}{{this}}{{end}}{{end}}":     api.OK,
		"{{each a}}{{each this}}{{this}}{{end}}{{this}}{{end}}":                     api.OK,
		"{{each a}}{{each b}}{{each this.c}}{{end}}{{end}}{{end}}":                  api.OK,
		"{{if a}}{{each a}}{{this}}{{end}}{{else}}{{each b}}{{this}}{{end}}{{end}}": api.OK,
		"{{if a}}{{each a}}{{end}}{{this}}{{end}}":                                  api.ErrName,
	} {
		if err := vet.This(parsed(t, s)); err != want {
			t.Errorf("This of %s is %d, not %d", s, err, want)
		}
	}
	for _, s := range templates() {
		l, want := parsed(t, s), api.OK
		words, _ := tree.Paths(outside(l))
		for _, word := range words {
			if first(word) == "this" {
				want = api.ErrName
			}
		}
		if err := vet.This(l); err != want {
			t.Fatalf("This of %s is %d, not %d", s, err, want)
		}
	}
}

func TestSizesOfTemplates(t *testing.T) { // 12.2
	for s, want := range map[string][3]int{
		"":                           {0, 0, 0},
		"x":                          {1, 1, 1},
		"{{a}}":                      {1, 1, 0},
		"Hi {{name}}!":               {1, 3, 4},
		"{{if a}}{{end}}":            {1, 1, 0},
		"{{if a}}{{else}}{{end}}":    {1, 1, 0},
		"{{if a}}xy{{end}}":          {2, 2, 2},
		"{{if a}}{{else}}xyz{{end}}": {2, 2, 3},
		"{{if a}}x{{else}}{{if b}}yz{{end}}{{end}}é":                                                  {3, 5, 5},
		"{{if a}}{{if b}}yz{{end}}{{else}}x{{end}}":                                                   {3, 4, 3},
		"{{each items}}{{this.a}}{{b}}!{{end}}":                                                       {2, 4, 1},
		"{{each a}}{{end}}{{each b}}x{{end}}{{c}}":                                                    {2, 4, 1},
		strings.Repeat("x", 1024):                                                                     {1, 1, 1024},
		strings.Repeat("x{{a}}", 128):                                                                 {1, 256, 128},
		strings.Repeat("{{if a}}", 8) + strings.Repeat("{{end}}", 8):                                  {8, 8, 0},
		strings.Repeat("{{each a}}", 7) + "xyz" + strings.Repeat("{{end}}", 7):                        {8, 8, 3},
		strings.Repeat("{{if a}}x{{else}}", 7) + "{{a}}" + strings.Repeat("{{end}}", 7):               {8, 15, 7},
		strings.Repeat("{{if a}}", 7) + "x" + strings.Repeat("{{else}}yz{{end}}", 7) + "{{a}}":        {8, 16, 15},
		strings.Repeat("x{{each l}}", 7) + "x" + strings.Repeat("{{end}}x", 7) + "{{each a}}{{end}}x": {8, 24, 16},
	} {
		checkSizes(t, s, want)
	}
	for _, s := range templates() {
		toks, _ := tree.Tokens(parsed(t, s))
		levels, many, bytes := sizes(toks)
		checkSizes(t, s, [3]int{levels, many, bytes})
	}
}

// checkSizes holds a template's levels, nodes and bytes against what they are.
func checkSizes(t *testing.T, s string, want [3]int) {
	t.Helper()
	l := parsed(t, s)
	levels, one := vet.Depth(l)
	many, two := vet.Count(l)
	bytes, three := vet.Plain(l)
	if got := [3]int{levels, many, bytes}; got != want || one != api.OK || two != api.OK || three != api.OK {
		t.Errorf("Depth, Count, Plain of %s are %d, not %d", s, got, want)
	}
}

func TestNodesMadeByHand(t *testing.T) { // 12.1, 12.2
	long := strings.Repeat("x", 1<<20)
	a := api.Node{Kind: api.TokVar, Path: []string{"a"}, Kids: []api.Node{}, Else: []api.Node{}}
	l := []api.Node{
		{Kind: api.TokText, Text: long, Path: []string{}},
		{Kind: api.TokEach, Path: []string{"l"}, Kids: slices.Repeat([]api.Node{a}, 253), Else: []api.Node{}},
		{Kind: api.TokText, Text: long},
	}
	roots, err := vet.Roots(l)
	if !slices.Equal(roots, []string{"a", "l"}) || err != api.OK || vet.Only(l, "l", "a") != api.OK || vet.This(l) != api.OK {
		t.Errorf("Roots is %q, %d", roots, err)
	}
	levels, _ := vet.Depth(l)
	many, _ := vet.Count(l)
	bytes, _ := vet.Plain(l)
	if levels != 2 || many != 256 || bytes != 2<<20 {
		t.Errorf("there are %d levels, %d nodes, %d bytes", levels, many, bytes)
	}
	for _, empty := range [][]api.Node{nil, {}} {
		roots, err := vet.Roots(empty)
		if len(roots) != 0 || err != api.OK || vet.Only(empty) != api.OK || vet.This(empty) != api.OK {
			t.Errorf("of no nodes Roots is %q, %d", roots, err)
		}
	}
}

// wrongs are nodes that are not right.
func wrongs() map[string][]api.Node {
	word := []string{"a"}
	a, text := api.Node{Kind: api.TokVar, Path: word}, api.Node{Kind: api.TokText, Text: "x"}
	all := map[string][]api.Node{
		"nothing":             {{}},
		"an else":             {{Kind: api.TokElse}},
		"an end":              {a, {Kind: api.TokEnd}},
		"the kind behind":     {{Kind: api.TokCount, Path: word}},
		"an empty text":       {{Kind: api.TokText}},
		"a var of this, with": {{Kind: api.TokVar, Path: []string{"this"}, Kids: []api.Node{a}}},
		"a var without Path":  {a, {Kind: api.TokVar}},
		"a name that is none": {{Kind: api.TokVar, Path: []string{"A"}}},
		"an each with Else":   {{Kind: api.TokEach, Path: word, Else: []api.Node{a}}},
		"two texts":           {text, text},
		"a wrong one within":  {{Kind: api.TokIf, Path: []string{"this"}, Kids: []api.Node{a}, Else: []api.Node{{}}}},
		"a node too many":     slices.Repeat([]api.Node{a}, 257),
	}
	deep := []api.Node{a}
	for range 8 {
		deep = []api.Node{{Kind: api.TokIf, Path: word, Kids: deep}}
	}
	all["a level too many"] = deep
	for kind := range api.TokCount {
		l := make([]api.Node, 2)
		for i := range l {
			l[i] = api.Node{Kind: kind, Path: word, Kids: l}
		}
		all["itself within, of kind "+strconv.Itoa(int(kind))] = l
	}
	return all
}

func TestAllTellFirstWhatIsWrong(t *testing.T) { // 12.1, 12.2
	for name, l := range wrongs() {
		if roots, err := vet.Roots(l); len(roots) != 0 || err != api.ErrForm {
			t.Errorf("%s: Roots is %q, %d, not ErrForm", name, roots, err)
		}
		if one, two := vet.Only(l), vet.Only(l, "a", "b"); one != api.ErrForm || two != api.ErrForm {
			t.Errorf("%s: Only is %d, and %d, not ErrForm", name, one, two)
		}
		if err := vet.This(l); err != api.ErrForm {
			t.Errorf("%s: This is %d, not ErrForm", name, err)
		}
		for call, of := range map[string]func([]api.Node) (int, api.Errno){"Depth": vet.Depth, "Count": vet.Count, "Plain": vet.Plain} {
			if n, err := of(l); n != 0 || err != api.ErrForm {
				t.Errorf("%s: %s is %d, %d, not ErrForm", name, call, n, err)
			}
		}
	}
}

func TestAnswersAreNewMemory(t *testing.T) { // 12.3
	l := parsed(t, "{{name.of}}{{each list}}{{name}}{{end}}")
	seen := map[*byte]bool{unsafe.StringData(l[0].Path[0]): true, unsafe.StringData(l[1].Path[0]): true, unsafe.StringData(l[1].Kids[0].Path[0]): true}
	one, _ := vet.Roots(l)
	two, _ := vet.Roots(l)
	for _, root := range append(slices.Clone(one), two...) {
		if seen[unsafe.StringData(root)] {
			t.Errorf("the root %s is not of new memory", root)
		}
		seen[unsafe.StringData(root)] = true
	}
	one[0], one[1] = "changed", "changed"
	if three, _ := vet.Roots(l); !slices.Equal(two, []string{"list", "name"}) || !slices.Equal(three, two) {
		t.Errorf("an answer hangs on an earlier one: %q, %q", two, three)
	}
}

func TestWhatIsHandedInStays(t *testing.T) { // 12.3
	s := "{{c}}x{{if b}}{{this}}{{else}}{{a}}{{end}}{{each this}}y{{end}}"
	l, was := parsed(t, s), parsed(t, s)
	names := []string{"c", "a", "b", "a", "spare"}
	for range 2 {
		vet.Roots(l)
		vet.Only(l, names[:4]...)
		vet.This(l)
		vet.Depth(l)
		vet.Count(l)
		vet.Plain(l)
	}
	if !reflect.DeepEqual(l, was) || fmt.Sprint(names) != "[c a b a spare]" {
		t.Error("what was handed in was changed")
	}
}
