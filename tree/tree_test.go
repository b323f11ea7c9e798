package tree_test

import (
	"fmt"
	"math/rand"
	"reflect"
	"regexp"
	"slices"
	"strconv"
	"strings"
	"testing"

	"bellman/api"
	"bellman/scan"
	"bellman/tree"
)

// The kinds of tokens, made short; a word is a path's.
func text(s string) api.Tok        { return api.Tok{Kind: api.TokText, Text: s} }
func variable(word string) api.Tok { return api.Tok{Kind: api.TokVar, Path: strings.Split(word, ".")} }
func when(word string) api.Tok     { return api.Tok{Kind: api.TokIf, Path: strings.Split(word, ".")} }
func each(word string) api.Tok     { return api.Tok{Kind: api.TokEach, Path: strings.Split(word, ".")} }
func otherwise() api.Tok           { return api.Tok{Kind: api.TokElse} }
func end() api.Tok                 { return api.Tok{Kind: api.TokEnd} }

// The kinds of nodes, made short.
func plain(s string) api.Node   { return api.Node{Kind: api.TokText, Text: s} }
func path(word string) api.Node { return api.Node{Kind: api.TokVar, Path: strings.Split(word, ".")} }

func choice(word string, kids, others []api.Node) api.Node {
	return api.Node{Kind: api.TokIf, Path: strings.Split(word, "."), Kids: kids, Else: others}
}

func loop(word string, kids ...api.Node) api.Node {
	return api.Node{Kind: api.TokEach, Path: strings.Split(word, "."), Kids: kids}
}

func toks(l ...api.Tok) []api.Tok    { return l }
func nodes(l ...api.Node) []api.Node { return l }

// deep is the nodes in other memory, nil for each list that is empty.
func deep(l []api.Node) []api.Node {
	var all []api.Node
	for _, n := range l {
		n.Text = strings.Clone(n.Text)
		n.Path = append([]string(nil), n.Path...)
		for i, name := range n.Path {
			n.Path[i] = strings.Clone(name)
		}
		n.Kids, n.Else = deep(n.Kids), deep(n.Else)
		all = append(all, n)
	}
	return all
}

// told is whatever it is as a text, as far as one reads on.
func told(of any) string {
	s := fmt.Sprint(of)
	return s[:min(len(s), 300)]
}

// same tells whether two lists of nodes are the same; nil and empty lists are alike.
func same(a, b []api.Node) bool {
	return reflect.DeepEqual(deep(a), deep(b))
}

// sameTokens tells whether two lists of tokens are the same; nil and empty lists are alike.
func sameTokens(a, b []api.Tok) bool {
	return slices.EqualFunc(a, b, func(t, u api.Tok) bool {
		return t.Kind == u.Kind && t.Text == u.Text && slices.Equal(t.Path, u.Path)
	})
}

// tokensOf are the tokens of nodes that have what their Kinds have.
func tokensOf(l []api.Node) []api.Tok {
	var all []api.Tok
	for _, n := range l {
		all = append(all, api.Tok{Kind: n.Kind, Text: n.Text, Path: n.Path})
		if n.Kind == api.TokIf || n.Kind == api.TokEach {
			all = append(all, tokensOf(n.Kids)...)
			if len(n.Else) > 0 {
				all = append(append(all, otherwise()), tokensOf(n.Else)...)
			}
			all = append(all, end())
		}
	}
	return all
}

// levelsOf is how many levels nodes have.
func levelsOf(l []api.Node) int {
	most := 0
	for _, n := range l {
		most = max(most, 1+levelsOf(n.Kids), 1+levelsOf(n.Else))
	}
	return most
}

// manyOf is how many nodes there are, those within others among them.
func manyOf(l []api.Node) int {
	many := len(l)
	for _, n := range l {
		many += manyOf(n.Kids) + manyOf(n.Else)
	}
	return many
}

// within is a node within so many others, which are made by around.
func within(n api.Node, many int, around func(api.Node) api.Node) api.Node {
	for range many {
		n = around(n)
	}
	return n
}

// The ways for a node to stand within another one.
func inKids(n api.Node) api.Node { return choice("a", nodes(n), nil) }
func inElse(n api.Node) api.Node { return choice("a", nil, nodes(n)) }
func inEach(n api.Node) api.Node { return loop("a.b", n) }
func inBoth(n api.Node) api.Node { return choice("a", nodes(path("b")), nodes(path("c"), n)) }

// chance is any nodes with what their Kinds have, of so many levels at most; no texts stand side by side, and none has a brace.
func chance(r *rand.Rand, levels int) []api.Node {
	var l []api.Node
	words := []string{"a", "b.c", "this", "this.a", "a.b.c.d", "if.else"}
	if levels == 0 {
		return nil
	}
	for range r.Intn(4) {
		word := words[r.Intn(len(words))]
		switch r.Intn(4) {
		case 0:
			if len(l) == 0 || l[len(l)-1].Kind != api.TokText {
				l = append(l, plain([]string{"x", "some text", "}}", " "}[r.Intn(4)]))
			}
		case 1:
			l = append(l, path(word))
		case 2:
			l = append(l, choice(word, chance(r, levels-1), chance(r, levels-1)))
		case 3:
			l = append(l, loop(word, chance(r, levels-1)...))
		}
	}
	return l
}

// rights are right nodes: each kind, each edge, and any others.
func rights() [][]api.Node {
	many := func(most int) []api.Node {
		var l []api.Node
		for i := range most {
			l = append(l, []api.Node{plain("x"), path("a")}[i%2])
		}
		return l
	}
	all := [][]api.Node{
		nil,
		{},
		{plain("x")}, {plain("{")}, {plain("x{")}, {plain("}}")}, {plain(strings.Repeat("x", 100000))},
		{path("a")}, {path("a.b.c.d")}, {path("this")}, {path("end.a")},
		{choice("a", nil, nil)}, {choice("a.b", nodes(plain("x")), nil)}, {choice("a", nil, nodes(plain("x")))}, {choice("a", nodes(plain("x")), nodes(plain("y")))},
		{loop("a")}, {loop("a.b.c.d", path("this"), plain(","))},
		{plain("x"), path("a"), plain("y"), choice("b", nodes(plain("z")), nodes(plain("z"))), plain("z"), loop("c", plain("z")), plain("{")},
		{path("a"), path("a"), loop("a"), loop("a"), choice("a", nil, nil), choice("a", nil, nil)},
		{{Kind: api.TokText, Text: "x", Path: []string{}, Kids: nodes(), Else: nodes()}},
		{{Kind: api.TokVar, Path: []string{"a"}, Kids: nodes(), Else: nodes()}},
		{{Kind: api.TokIf, Path: []string{"a"}, Kids: nodes(), Else: nodes()}},
		{{Kind: api.TokEach, Path: []string{"a"}, Kids: nodes(), Else: nodes()}},
		many(256), {loop("a", many(255)...)}, {choice("a", many(127), many(128))}, {inBoth(inKids(choice("a", many(251), nil)))},
		{within(inKids(path("a")), 6, inEach), inElse(plain("x"))},
	}
	for _, around := range []func(api.Node) api.Node{inKids, inElse, inEach, inBoth} {
		for _, n := range nodes(plain("x"), path("a"), choice("a", nil, nil), loop("a")) {
			all = append(all, nodes(within(n, 7, around)))
		}
	}
	r := rand.New(rand.NewSource(11))
	for i := range 1000 {
		if l := chance(r, 1+i%8); manyOf(l) <= 256 {
			all = append(all, l)
		}
	}
	return all
}

// itself is a list of so many nodes of that kind, which each have the list within.
func itself(kind api.TokKind, many int, inElse bool) []api.Node {
	l := make([]api.Node, many)
	for i := range l {
		l[i] = api.Node{Kind: kind, Path: []string{"a"}}
		if inElse {
			l[i].Else = l
		} else {
			l[i].Kids = l
		}
	}
	return l
}

// doubled is a list of two nodes, which both have the same list of two within, and so on, so many levels.
func doubled(levels int) []api.Node {
	var l []api.Node
	for range levels {
		l = nodes(choice("a", l, nil), loop("b", l...))
	}
	return l
}

// wrongFields are nodes that have what their Kind has not, or have not what it has.
func wrongFields() map[string]api.Node {
	word, some := []string{"a"}, nodes(plain("x"))
	all := map[string]api.Node{
		"nothing":             {},
		"no kind, but a text": {Text: "x"},
		"an else":             {Kind: api.TokElse},
		"an end":              {Kind: api.TokEnd},
		"an else with a path": {Kind: api.TokElse, Path: word},
		"the kind behind":     {Kind: api.TokCount},
		"the kind behind, so": {Kind: api.TokCount, Path: word, Kids: some},
		"the highest kind":    {Kind: 255, Text: "x"},
		"an empty text":       {Kind: api.TokText},
		"a text of a tag":     plain("{{a}}"),
		"a text with {{":      plain("x{{y"),
		"a text with Path":    {Kind: api.TokText, Text: "x", Path: word},
		"a text with Kids":    {Kind: api.TokText, Text: "x", Kids: some},
		"a text with Else":    {Kind: api.TokText, Text: "x", Else: some},
		"a var with Kids":     {Kind: api.TokVar, Path: word, Kids: some},
		"a var with Else":     {Kind: api.TokVar, Path: word, Else: some},
		"an each with Else":   {Kind: api.TokEach, Path: word, Else: some},
		"an each with both":   {Kind: api.TokEach, Path: word, Kids: some, Else: some},
	}
	for name, kind := range map[string]api.TokKind{"a var": api.TokVar, "an if": api.TokIf, "an each": api.TokEach} {
		all[name+" with Text"] = api.Node{Kind: kind, Text: "x", Path: word}
		all[name+" without Path"] = api.Node{Kind: kind}
		all[name+" of an empty name"] = api.Node{Kind: kind, Path: []string{""}}
		all[name+" of a dot"] = api.Node{Kind: kind, Path: []string{"a.b"}}
		all[name+" of a word of tags"] = api.Node{Kind: kind, Path: []string{"end"}}
		all[name+" of a name that is none"] = api.Node{Kind: kind, Path: []string{"a", "B"}}
		all[name+" of five names"] = api.Node{Kind: kind, Path: slices.Repeat(word, 5)}
		all[name+" of many names"] = api.Node{Kind: kind, Path: slices.Repeat(word, 100000)}
		all[name+" of a name too long"] = api.Node{Kind: kind, Path: []string{strings.Repeat("a", 33)}}
	}
	return all
}

// wrongs are nodes that are not right.
func wrongs() map[string][]api.Node {
	x, a := plain("x"), path("a")
	all := map[string][]api.Node{
		"texts side by side":             {x, plain("y")},
		"texts side by side in Kids":     {choice("a", nodes(x, x), nil)},
		"texts side by side in Else":     {choice("a", nil, nodes(a, x, x))},
		"texts side by side in an each":  {loop("a", x, x)},
		"a brace ahead of a path":        {plain("x{"), a},
		"a brace ahead of an if":         {plain("{"), choice("a", nil, nil)},
		"a brace ahead of an each":       {plain("{"), loop("a")},
		"a brace ahead of an if's end":   {choice("a", nodes(plain("{")), nil)},
		"a brace ahead of an else":       {choice("a", nodes(plain("{")), nodes(x))},
		"a brace at the end of an else":  {choice("a", nodes(x), nodes(plain("{")))},
		"a brace ahead of an each's end": {loop("a", a, plain("{"))},
		"a node more than there may be":  slices.Repeat(nodes(a), 257),
		"a node more, within":            {loop("a", slices.Repeat(nodes(a), 256)...)},
		"a node more, in both":           {choice("a", slices.Repeat(nodes(a), 128), slices.Repeat(nodes(a), 128))},
		"a node more, behind":            append(nodes(loop("a", slices.Repeat(nodes(a), 250)...)), slices.Repeat(nodes(a), 6)...),
		"many nodes":                     slices.Repeat(nodes(a), 100000),
		"many empty nodes within":        {loop("a", make([]api.Node, 100000)...)},
		"far too many levels":            {within(a, 100000, inKids)},
		"far too many levels of else":    {within(a, 100000, inElse)},
		"lists that are twice within":    doubled(8),
		"lists that are often within":    doubled(1000),
	}
	for name, around := range map[string]func(api.Node) api.Node{"kids": inKids, "else": inElse, "each": inEach, "both": inBoth} {
		for i, n := range nodes(x, a, choice("a", nil, nil), loop("a")) {
			all["a level more in "+name+strconv.Itoa(i)] = nodes(within(n, 8, around))
			all["a level more behind, in "+name+strconv.Itoa(i)] = nodes(a, within(n, 8, around), a)
		}
	}
	for _, many := range []int{1, 2, 3, 300} {
		for kind := range api.TokCount {
			name := "of kind " + strconv.Itoa(int(kind)) + ", of " + strconv.Itoa(many) + ", itself in "
			all[name+"Kids"] = itself(kind, many, false)
			all[name+"Else"] = itself(kind, many, true)
		}
	}
	for name, n := range wrongFields() {
		all[name] = nodes(n)
		all[name+" ahead"] = nodes(n, a)
		all[name+" behind"] = nodes(a, n)
		all[name+" in Kids"] = nodes(choice("a", nodes(a, n), nil))
		all[name+" in Else"] = nodes(choice("a", nodes(a), nodes(n)))
		all[name+" in an each"] = nodes(loop("a", n, a))
		all[name+" far within"] = nodes(a, within(n, 7, inBoth), a)
	}
	return all
}

func TestCheckTellsWhatIsRight(t *testing.T) { // 11.1
	for _, l := range rights() {
		if err := tree.Check(l); err != api.OK {
			t.Errorf("Check(%s) is %d", told(l), err)
		}
	}
}

func TestCheckTellsWhatIsWrong(t *testing.T) { // 11.1, 11.2
	for name, l := range wrongs() {
		if err := tree.Check(l); err != api.ErrForm {
			t.Errorf("%s: Check is %d, not ErrForm", name, err)
		}
		if all, err := tree.Tokens(l); len(all) != 0 || err != api.ErrForm {
			t.Errorf("%s: Tokens is %s, %d, not ErrForm", name, told(all), err)
		}
		if s, err := tree.Write(l); s != "" || err != api.ErrForm {
			t.Errorf("%s: Write is %.100q, %d, not ErrForm", name, s, err)
		}
		if words, err := tree.Paths(l); len(words) != 0 || err != api.ErrForm {
			t.Errorf("%s: Paths is %.100q, %d, not ErrForm", name, words, err)
		}
	}
}

// shaped tells whether nodes have what their Kinds have, whatever their Texts and Paths are.
func shaped(l []api.Node) bool {
	for _, n := range l {
		text, word, kids, others := n.Text != "", len(n.Path) > 0, len(n.Kids) > 0, len(n.Else) > 0
		ok := map[api.TokKind]bool{
			api.TokText: !word && !kids && !others,
			api.TokVar:  !text && !kids && !others,
			api.TokIf:   !text,
			api.TokEach: !text && !others,
		}[n.Kind]
		if !ok || !shaped(n.Kids) || !shaped(n.Else) {
			return false
		}
	}
	return true
}

// anyNodes are any nodes that have some of all fields, of so many levels at most.
func anyNodes(r *rand.Rand, levels int) []api.Node {
	var l []api.Node
	if levels == 0 {
		return nil
	}
	for range r.Intn(4) {
		n := api.Node{Kind: api.TokKind(1 + r.Intn(5))}
		if n.Kind == api.TokText || r.Intn(40) == 0 {
			n.Text = []string{"x", "y ", "}", "x", "y{", ""}[r.Intn(6)]
		}
		if n.Kind != api.TokText || r.Intn(40) == 0 {
			n.Path = [][]string{{"a"}, {"a", "b"}, {"this"}, {"if", "a"}, {"c"}, {"if"}, {}}[r.Intn(7)]
		}
		if n.Kind == api.TokIf || n.Kind == api.TokEach || r.Intn(40) == 0 {
			n.Kids = anyNodes(r, levels-1)
		}
		if n.Kind == api.TokIf || r.Intn(40) == 0 {
			n.Else = anyNodes(r, levels-1)
		}
		l = append(l, n)
	}
	return l
}

func TestCheckTellsOfAnyNodes(t *testing.T) { // 11.1, 11.4
	r := rand.New(rand.NewSource(12))
	right, wrong := 0, 0
	for i := range 30000 {
		l := anyNodes(r, 1+i%9)
		if shaped(l) && levelsOf(l) <= 8 && manyOf(l) <= 256 && scan.Check(tokensOf(l)) == api.OK {
			right++
			checkBack(t, l)
			continue
		}
		wrong++
		all, err := tree.Tokens(l)
		if tree.Check(l) != api.ErrForm || len(all) != 0 || err != api.ErrForm {
			t.Fatalf("Tokens(%s) is %s, %d, not ErrForm", told(l), told(all), err)
		}
	}
	if right < 1000 || wrong < 1000 {
		t.Errorf("%d nodes are right, %d are not", right, wrong)
	}
}

// checkBack holds what is told of right nodes against their tokens, and these against the nodes.
func checkBack(t *testing.T, l []api.Node) {
	t.Helper()
	all, err := tree.Tokens(l)
	if tree.Check(l) != api.OK || !sameTokens(all, tokensOf(l)) || err != api.OK {
		t.Fatalf("Tokens(%s) is %s, %d", told(l), told(all), err)
	}
	if again, err := tree.Nodes(all...); !same(again, l) || err != api.OK {
		t.Fatalf("Nodes(%s) is %s, %d, not %s", told(all), told(again), err, told(l))
	}
	want, wantErr := scan.Write(tokensOf(l)...)
	s, err := tree.Write(l)
	if s != want || err != wantErr {
		t.Fatalf("Write(%s) is %.200q, %d, not %.200q, %d", told(l), s, err, want, wantErr)
	}
	if err != api.OK {
		return
	}
	if again, err := tree.Parse(s); !same(again, l) || err != api.OK {
		t.Fatalf("Parse(%q) is %s, %d, not %s", s, told(again), err, told(l))
	}
}

func TestTokensOfNodesAreThoseNodes(t *testing.T) { // 11.1, 11.2, 11.4
	for _, l := range rights() {
		checkBack(t, l)
	}
}

func TestTokensOfSomeNodes(t *testing.T) { // 11.1
	for _, c := range []struct {
		l    []api.Node
		want []api.Tok
	}{
		{nil, nil},
		{nodes(plain("x"), path("a.b")), toks(text("x"), variable("a.b"))},
		{nodes(choice("a", nil, nil)), toks(when("a"), end())},
		{nodes(choice("a", nodes(plain("x")), nil)), toks(when("a"), text("x"), end())},
		{nodes(choice("a", nil, nodes(plain("y")))), toks(when("a"), otherwise(), text("y"), end())},
		{nodes(choice("a", nodes(plain("x")), nodes(plain("y")))), toks(when("a"), text("x"), otherwise(), text("y"), end())},
		{nodes(loop("a.b")), toks(each("a.b"), end())},
		{nodes(loop("a", path("this"), choice("b", nil, nodes(loop("c"))))), toks(each("a"), variable("this"), when("b"), otherwise(), each("c"), end(), end(), end())},
		{nodes(choice("a", nil, nil), loop("b"), path("c")), toks(when("a"), end(), each("b"), end(), variable("c"))},
	} {
		if all, err := tree.Tokens(c.l); !sameTokens(all, c.want) || err != api.OK {
			t.Errorf("Tokens(%s) is %s, %d, not %s", told(c.l), told(all), err, told(c.want))
		}
		if l, err := tree.Nodes(c.want...); !same(l, c.l) || err != api.OK {
			t.Errorf("Nodes(%s) is %s, %d, not %s", told(c.want), told(l), err, told(c.l))
		}
	}
}

// pair is a tag and its end, with what stands for nodes within; each kind of a token is a letter.
var pair = regexp.MustCompile(`i[tv]*(l[tv]*)?n|e[tv]*n`)

// belong tells whether all tags belong with others: pair for pair is taken for one node.
func belong(l []api.Tok) bool {
	s := ""
	for _, t := range l {
		s += string("?tvilen"[t.Kind])
	}
	for pair.MatchString(s) {
		s = pair.ReplaceAllString(s, "v")
	}
	return strings.Trim(s, "tv") == ""
}

// fits tells whether the nodes of tokens that belong have as many levels as may be, and are as many.
func fits(l []api.Tok) bool {
	many, level := 0, 1
	for _, t := range l {
		switch t.Kind {
		case api.TokElse:
		case api.TokEnd:
			level--
		default:
			many++
			if level > 8 {
				return false
			}
			if t.Kind == api.TokIf || t.Kind == api.TokEach {
				level++
			}
		}
	}
	return many <= 256
}

// checkNodes holds the nodes of tokens against the tokens.
func checkNodes(t *testing.T, l []api.Tok) api.Errno {
	t.Helper()
	want := api.OK
	switch {
	case scan.Check(l) != api.OK:
		want = api.ErrForm
	case !belong(l):
		want = api.ErrCode
	case !fits(l):
		want = api.ErrDeep
	}
	all, err := tree.Nodes(l...)
	if err != want || want != api.OK && len(all) != 0 {
		t.Fatalf("Nodes(%s) is %s, %d, not %d", told(l), told(all), err, want)
	}
	if want != api.OK {
		return want
	}
	// An else with nothing behind it leaves no trace.
	var left []api.Tok
	for i, k := range l {
		if k.Kind != api.TokElse || l[i+1].Kind != api.TokEnd {
			left = append(left, k)
		}
	}
	if !shaped(all) || !sameTokens(tokensOf(all), left) {
		t.Fatalf("Nodes(%s) is %s", told(l), told(all))
	}
	again, err := tree.Tokens(all)
	if tree.Check(all) != api.OK || !sameTokens(again, left) || err != api.OK {
		t.Fatalf("Tokens of Nodes(%s) is %s, %d", told(l), told(again), err)
	}
	return want
}

func TestNodesOfAllShortLists(t *testing.T) { // 11.1, 11.4
	kinds := toks(text("x"), variable("a"), when("b.c"), each("d"), otherwise(), end())
	last := [][]api.Tok{nil}
	count := map[api.Errno]int{}
	for range 7 {
		var longer [][]api.Tok
		for _, l := range last {
			count[checkNodes(t, l)]++
			for _, k := range kinds {
				longer = append(longer, append(slices.Clone(l), k))
			}
		}
		last = longer
	}
	if count[api.OK] < 500 || count[api.ErrCode] < 500 || count[api.ErrForm] < 500 {
		t.Errorf("there are %s", told(count))
	}
}

func TestNodesOfAnyLists(t *testing.T) { // 11.1, 11.4
	r := rand.New(rand.NewSource(13))
	kinds := toks(text("x"), text("{"), variable("a"), when("b"), each("c"), otherwise(), end(), end(), api.Tok{})
	count := map[api.Errno]int{}
	for i := range 20000 {
		var l []api.Tok
		open := 0
		for range r.Intn(60) {
			k := kinds[2+r.Intn(6)]
			if r.Intn(100) == 0 {
				k = kinds[r.Intn(len(kinds))]
			}
			if k.Kind == api.TokEnd && open == 0 || k.Kind == api.TokElse && r.Intn(3) > 0 {
				continue
			}
			l = append(l, k)
			open += map[api.TokKind]int{api.TokIf: 1, api.TokEach: 1, api.TokEnd: -1}[k.Kind]
		}
		if i%8 > 0 {
			l = append(l, slices.Repeat(toks(end()), open)...)
		}
		count[checkNodes(t, l)]++
	}
	for _, err := range []api.Errno{api.OK, api.ErrForm, api.ErrCode, api.ErrDeep} {
		if count[err] < 100 {
			t.Errorf("there are %s", told(count))
		}
	}
}
