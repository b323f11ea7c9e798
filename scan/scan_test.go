package scan_test

import (
	"math/rand"
	"reflect"
	"regexp"
	"slices"
	"strings"
	"testing"
	"unsafe"

	"bellman/api"
	"bellman/scan"
)

// The kinds of tokens, made short; a word is a path's.
func text(s string) api.Tok        { return api.Tok{Kind: api.TokText, Text: s} }
func variable(word string) api.Tok { return api.Tok{Kind: api.TokVar, Path: strings.Split(word, ".")} }
func when(word string) api.Tok     { return api.Tok{Kind: api.TokIf, Path: strings.Split(word, ".")} }
func each(word string) api.Tok     { return api.Tok{Kind: api.TokEach, Path: strings.Split(word, ".")} }
func otherwise() api.Tok           { return api.Tok{Kind: api.TokElse} }
func end() api.Tok                 { return api.Tok{Kind: api.TokEnd} }

// long is the longest name, and longest the longest word of a path.
var (
	long    = "a" + strings.Repeat("_", 31)
	longest = strings.Join([]string{long, long, long, long}, ".")
)

// same tells whether two lists of tokens are the same; nil and empty lists are alike.
func same(a, b []api.Tok) bool {
	return slices.EqualFunc(a, b, func(t, u api.Tok) bool {
		return t.Kind == u.Kind && t.Text == u.Text && slices.Equal(t.Path, u.Path)
	})
}

// The words of the document, as patterns: what is a tag, and what is a path's word but for those that none of one name may be.
var (
	pathPattern = `[a-z][a-z0-9_]{0,31}(?:\.[a-z][a-z0-9_]{0,31}){0,3}`
	onlyPath    = regexp.MustCompile(`^(?:` + pathPattern + `)$`)
	tagWithPath = regexp.MustCompile(`^\{\{ *(?:(if|each) +)?(` + pathPattern + `) *\}\}`)
	tagWithout  = regexp.MustCompile(`^\{\{ *(else|end) *\}\}`)
)

// isPath tells whether it is a path's word.
func isPath(word string) bool {
	return onlyPath.MatchString(word) && !slices.Contains([]string{"if", "each", "else", "end"}, word)
}

// tokensOf are the text's tokens, told by the patterns; not ok, if it has none.
func tokensOf(s string) (l []api.Tok, ok bool) {
	for s != "" {
		at := strings.Index(s, "{{")
		if at < 0 {
			at = len(s)
		}
		if at > 0 {
			l = append(l, text(s[:at]))
			s = s[at:]
			continue
		}
		if m := tagWithout.FindStringSubmatch(s); m != nil {
			l = append(l, api.Tok{Kind: map[string]api.TokKind{"else": api.TokElse, "end": api.TokEnd}[m[1]]})
			s = s[len(m[0]):]
			continue
		}
		m := tagWithPath.FindStringSubmatch(s)
		if m == nil || !isPath(m[2]) {
			return nil, false
		}
		kind := map[string]api.TokKind{"": api.TokVar, "if": api.TokIf, "each": api.TokEach}[m[1]]
		l = append(l, api.Tok{Kind: kind, Path: strings.Split(m[2], ".")})
		s = s[len(m[0]):]
	}
	return l, true
}

// sourceOf is the text of right tokens.
func sourceOf(l ...api.Tok) string {
	all := ""
	for _, t := range l {
		path := strings.Join(t.Path, ".")
		all += map[api.TokKind]string{
			api.TokText: t.Text,
			api.TokVar:  "{{" + path + "}}",
			api.TokIf:   "{{if " + path + "}}",
			api.TokElse: "{{else}}",
			api.TokEach: "{{each " + path + "}}",
			api.TokEnd:  "{{end}}",
		}[t.Kind]
	}
	return all
}

// noPaths are no words of paths.
func noPaths() []string {
	return []string{
		"", ".", "..", "a.", ".a", "a..b", "a.b.", ".a.b", "a.b.c.d.e", "a.b.c.d.", "a.b.c.d.e.f.g", strings.Repeat("a.", 100000),
		"if", "each", "else", "end",
		"A", "a.B", "1", "a.1", "_a", "a._b", "a b", " a", "a ", "a. b", "a\t", "\na", "a-b", "a{", "}", "é", "a.\xff", "a\x00",
		long + "a", "b." + long + "a", strings.Repeat("a", 100000), longest + ".a", longest + "a",
	}
}

func TestPathTellsNames(t *testing.T) { // 10.1
	for word, want := range map[string][]string{
		"a":             {"a"},
		"a.b":           {"a", "b"},
		"a.b.c.d":       {"a", "b", "c", "d"},
		"this":          {"this"},
		"a_1.b2_":       {"a_1", "b2_"},
		"a.a.a":         {"a", "a", "a"},
		"if.a":          {"if", "a"},
		"a.if":          {"a", "if"},
		"if.each":       {"if", "each"},
		"else.end":      {"else", "end"},
		"each.each":     {"each", "each"},
		"end.a":         {"end", "a"},
		"iff":           {"iff"},
		"i":             {"i"},
		"else_":         {"else_"},
		"ends":          {"ends"},
		"eachitem.each": {"eachitem", "each"},
		long:            {long},
		longest:         {long, long, long, long},
	} {
		if path, err := scan.Path(word); !slices.Equal(path, want) || err != api.OK {
			t.Errorf("Path(%s) is %q, %d, not %q", word, path, err, want)
		}
	}
	for _, word := range noPaths() {
		if path, err := scan.Path(word); len(path) != 0 || err != api.ErrName {
			t.Errorf("Path(%.40q) is %.100q, %d, not ErrName", word, path, err)
		}
	}
}

func TestPathTakesJustItsWords(t *testing.T) { // 10.1
	pieces := []string{"a", ".", "if", "end", "else", "each", "1", "_", " ", "B"}
	for _, word := range strung(pieces, 5) {
		path, err := scan.Path(word)
		if !isPath(word) {
			if len(path) != 0 || err != api.ErrName {
				t.Fatalf("Path(%s) is %q, %d, not ErrName", word, path, err)
			}
		} else if strings.Join(path, ".") != word || len(path) != 1+strings.Count(word, ".") || err != api.OK {
			t.Fatalf("Path(%s) is %q, %d", word, path, err)
		}
	}
}

// strung is each text of so many pieces at most.
func strung(pieces []string, most int) []string {
	all, last := []string{""}, []string{""}
	for range most {
		var longer []string
		for _, s := range last {
			for _, piece := range pieces {
				longer = append(longer, s+piece)
			}
		}
		last = longer
		all = append(all, last...)
	}
	return all
}

func TestTokensOfPlainTexts(t *testing.T) { // 10.1
	for s, want := range map[string][]api.Tok{
		"":                              nil,
		" ":                             {text(" ")},
		"Hi {{ name }}!":                {text("Hi "), variable("name"), text("!")},
		"{{a}}":                         {variable("a")},
		"{{   a.b.c.d   }}":             {variable("a.b.c.d")},
		"{{if a}}x{{else}}y{{end}}":     {when("a"), text("x"), otherwise(), text("y"), end()},
		"{{each  l }}{{this}},{{ end}}": {each("l"), variable("this"), text(","), end()},
		"{{ else }}{{  end  }}":         {otherwise(), end()},
		"{{end}}{{else}}":               {end(), otherwise()},
		"{{a}}{{b}}":                    {variable("a"), variable("b")},
		"{{a}} {{b}}":                   {variable("a"), text(" "), variable("b")},
		"{{if.a}}{{each.a}}":            {variable("if.a"), variable("each.a")},
		"{{if if.a}}{{each a.end}}":     {when("if.a"), each("a.end")},
		"{{iff}}":                       {variable("iff")},
		"}}":                            {text("}}")},
		"a}}b":                          {text("a}}b")},
		"{":                             {text("{")},
		"}":                             {text("}")},
		"{}":                            {text("{}")},
		"{}}":                           {text("{}}")},
		"{ {a}}":                        {text("{ {a}}")},
		"{x}{{a}}{":                     {text("{x}"), variable("a"), text("{")},
		"{{a}}}":                        {variable("a"), text("}")},
		"{{a}}}}":                       {variable("a"), text("}}")},
		"}}{{a}}}}{{b}}":                {text("}}"), variable("a"), text("}}"), variable("b")},
		"a\nb\x00\xff{{a}}é":            {text("a\nb\x00\xff"), variable("a"), text("é")},
		"{{" + longest + "}}":           {variable(longest)},
	} {
		if l, err := scan.Tokens(s); !same(l, want) || err != api.OK {
			t.Errorf("Tokens(%q) is %v, %d, not %v", s, l, err, want)
		}
	}
}

func TestTokensTellsWhatIsNoTag(t *testing.T) { // 10.1
	for _, within := range []string{
		"", " ", "   ", "a b", "if", "each", "if if", "if each", "if else", "if end", "each if", "each each", "each else", "each end",
		"else a", "end a", "else else", "end end", "else if a", "if a b", "if a if", "each a b", "a if", "a else", "if else.a b", "ifa b", "IF a", "If a", "Else", "END",
		"\ta", "a\t", "if\ta", "if a\n", "a\u00a0", "if\u2003a", "a\r\n",
		"A", "1", "a-b", "a.", ".a", "a..b", "a . b", "a. b", "a.b.c.d.e", "if a.b.c.d.e", "each .a", long + "a", "if " + long + "a",
		"{", "{a", "a{", "{{", "{{a", "a{{b", " {{a", "}", "a} ", "}a", "\xff", "é",
	} {
		for _, s := range []string{"{{" + within + "}}", "x{{" + within + "}}y", "{{a}}{{" + within + "}}{{b}}", "{{end}}{{" + within + "}}}"} {
			if l, err := scan.Tokens(s); len(l) != 0 || err != api.ErrCode {
				t.Errorf("Tokens(%q) is %v, %d, not ErrCode", s, l, err)
			}
		}
	}
	for _, s := range []string{"{{", "{{a", "{{a}", "{{ a", "{{a} }", "a{{", "{{{", "{{{{", "{{a}}{{", "{{a}}{{b", "{{a}}{{end}", "{{{a}}", "{{{a}}}", "{{{{a}}}}", "}}{{", "{{a}{{b}}", "{{a {{b}}"} {
		if l, err := scan.Tokens(s); len(l) != 0 || err != api.ErrCode {
			t.Errorf("Tokens(%q) is %v, %d, not ErrCode", s, l, err)
		}
	}
}

// checkTokens holds what Tokens tells against the patterns.
func checkTokens(t *testing.T, s string) {
	t.Helper()
	want, ok := tokensOf(s)
	wantErr := api.OK
	if !ok {
		wantErr = api.ErrCode
	}
	if l, err := scan.Tokens(s); !same(l, want) || err != wantErr {
		t.Fatalf("Tokens(%q) is %v, %d, not %v, %d", s, l, err, want, wantErr)
	}
}

func TestTokensTellsAllShortTexts(t *testing.T) { // 10.1
	for _, s := range strung([]string{"{{", "}}", "{", "}", " ", "a", "if", "end"}, 6) {
		checkTokens(t, s)
	}
	for _, s := range strung([]string{"{", "}", "a"}, 9) {
		checkTokens(t, s)
	}
	for _, within := range strung([]string{" ", "a", ".", "if", "each", "else", "end", "\t", "1"}, 5) {
		checkTokens(t, "x{{"+within+"}}")
	}
}

func TestTokensTellsLongTexts(t *testing.T) { // 10.1
	r := rand.New(rand.NewSource(101))
	pieces := []string{"{{a}}", "{{ if a.b }}", "{{each  l}}", "{{end }}", "{{else}}", "x", "{", "}", " ", "}}", "{{" + longest + "}}", "a text"}
	for range 20000 {
		s := ""
		for range r.Intn(30) {
			s += pieces[r.Intn(len(pieces))]
		}
		if len(s) <= api.MaxSource {
			checkTokens(t, s)
		}
	}
}

func TestTokensRefusesLongTexts(t *testing.T) { // 10.1
	spaces := strings.Repeat(" ", 1019)
	for s, want := range map[string][]api.Tok{
		strings.Repeat("x", 1024):           {text(strings.Repeat("x", 1024))},
		"{{" + spaces + "a}}":               {variable("a")},
		strings.Repeat("x", 1019) + "{{a}}": {text(strings.Repeat("x", 1019)), variable("a")},
	} {
		if l, err := scan.Tokens(s); len(s) != 1024 || !same(l, want) || err != api.OK {
			t.Errorf("Tokens of %d bytes is %v, %d", len(s), l, err)
		}
	}
	if l, err := scan.Tokens(strings.Repeat("{{a}}", 204) + "xxxx"); len(l) != 205 || err != api.OK {
		t.Errorf("Tokens of many tags is %v, %d", l, err)
	}
	// Too long is told ahead of what is no tag.
	for _, s := range []string{strings.Repeat("x", 1025), "{{ " + spaces + "a}}", strings.Repeat("{{a}}", 205), strings.Repeat("{", 1025), "{{A}}" + strings.Repeat("x", 1020), strings.Repeat("x", 1<<20)} {
		if l, err := scan.Tokens(s); len(l) != 0 || err != api.ErrLong {
			t.Errorf("Tokens of %d bytes is %.100v, %d, not ErrLong", len(s), l, err)
		}
	}
}

// wrongs are tokens that are none.
func wrongs() map[string]api.Tok {
	path := []string{"a"}
	all := map[string]api.Tok{
		"nothing":             {},
		"no kind but a text":  {Text: "x"},
		"the kind behind":     {Kind: api.TokCount},
		"the kind behind, so": {Kind: api.TokCount, Path: path},
		"the highest kind":    {Kind: 255, Text: "x"},
		"an empty text":       {Kind: api.TokText},
		"a text with Path":    {Kind: api.TokText, Text: "x", Path: path},
		"a text of a tag":     text("{{a}}"),
		"a text with {{":      text("x{{y"),
		"a text of {{":        text("{{"),
		"a text of {{{":       text("{{{"),
		"a text ending so":    text("x{{"),
		"an else with Text":   {Kind: api.TokElse, Text: "x"},
		"an else with Path":   {Kind: api.TokElse, Path: path},
		"an end with Text":    {Kind: api.TokEnd, Text: "x"},
		"an end with Path":    {Kind: api.TokEnd, Path: path},
	}
	for name, kind := range map[string]api.TokKind{"a path": api.TokVar, "an if": api.TokIf, "an each": api.TokEach} {
		all[name+" with Text"] = api.Tok{Kind: kind, Text: "x", Path: path}
		all[name+" without Path"] = api.Tok{Kind: kind}
		all[name+" of dots within a name"] = api.Tok{Kind: kind, Path: []string{"a.b"}}
		all[name+" of an empty name"] = api.Tok{Kind: kind, Path: []string{""}}
		all[name+" of an empty name behind"] = api.Tok{Kind: kind, Path: []string{"a", ""}}
		all[name+" of many names"] = api.Tok{Kind: kind, Path: slices.Repeat(path, 100000)}
		for _, word := range noPaths() {
			all[name+" of "+word[:min(len(word), 100)]] = api.Tok{Kind: kind, Path: strings.Split(word, ".")}
		}
	}
	return all
}

// rights are tokens that are such, wherever they stand.
func rights() []api.Tok {
	return []api.Tok{
		text("x"), text("{"), text("}"), text("x{"), text("}}"), text("{x"), text("{}{"), text(" "),
		variable("a"), variable("a.b"), when("a"), when("if.else"), each("a.b.c.d"), each("this"), otherwise(), end(),
	}
}

func TestCheckTellsWhatIsNoToken(t *testing.T) { // 10.2
	for name, x := range wrongs() {
		for _, l := range [][]api.Tok{{x}, {variable("a"), x}, {x, variable("a")}, {text("x"), end(), x, end()}} {
			if err := scan.Check(l); err != api.ErrForm {
				t.Errorf("%s: Check is %d, not ErrForm", name, err)
			}
			if s, err := scan.Write(l...); s != "" || err != api.ErrForm {
				t.Errorf("%s: Write is %q, %d, not ErrForm", name, s, err)
			}
		}
	}
}

func TestCheckTellsWhatIsRight(t *testing.T) { // 10.2
	for _, l := range [][]api.Tok{
		nil,
		{},
		{text("x")},
		{text("x{")},
		{text("{")},
		{end(), text("{")},
		{text("}"), variable("a"), text("}")},
		{text("{ "), variable("a")},
		{otherwise(), end(), otherwise()},
		{text(strings.Repeat("x", 100000))},
		{{Kind: api.TokText, Text: "x", Path: []string{}}, {Kind: api.TokEnd, Path: []string{}}},
		{variable(longest), when(longest), each(longest)},
		slices.Repeat([]api.Tok{text("x"), variable("a")}, 50000),
	} {
		if err := scan.Check(l); err != api.OK {
			t.Errorf("Check(%.100v) is %d", l, err)
		}
	}
}

func TestCheckTellsWhatMayStandSideBySide(t *testing.T) { // 10.2
	for _, l := range [][]api.Tok{
		{text("x"), text("y")},
		{text("x"), text("x")},
		{text("{"), text("x")},
		{text("x{"), text("{y")},
		{end(), text("x"), text("y"), end()},
		{variable("a"), text("x"), text("y")},
		{text("{"), variable("a")},
		{text("x{"), when("a")},
		{text("x{"), each("a")},
		{text("x{"), otherwise()},
		{text("x{"), end()},
		{end(), text("{}{"), end()},
	} {
		if err := scan.Check(l); err != api.ErrForm {
			t.Errorf("Check(%v) is %d, not ErrForm", l, err)
		}
		if s, err := scan.Write(l...); s != "" || err != api.ErrForm {
			t.Errorf("Write(%v) is %q, %d, not ErrForm", l, s, err)
		}
	}
}

func TestWriteTellsTheText(t *testing.T) { // 10.2
	for _, c := range []struct {
		l    []api.Tok
		want string
	}{
		{nil, ""},
		{[]api.Tok{text(" x ")}, " x "},
		{[]api.Tok{variable("a")}, "{{a}}"},
		{[]api.Tok{variable("a.b.c.d")}, "{{a.b.c.d}}"},
		{[]api.Tok{when("a.b")}, "{{if a.b}}"},
		{[]api.Tok{each("a")}, "{{each a}}"},
		{[]api.Tok{otherwise()}, "{{else}}"},
		{[]api.Tok{end()}, "{{end}}"},
		{[]api.Tok{text("Hi "), variable("name"), text("! {")}, "Hi {{name}}! {"},
		{[]api.Tok{when("a"), text("x"), otherwise(), text("}"), end(), end()}, "{{if a}}x{{else}}}{{end}}{{end}}"},
	} {
		if s, err := scan.Write(c.l...); s != c.want || err != api.OK {
			t.Errorf("Write(%v) is %q, %d, not %q", c.l, s, err, c.want)
		}
	}
}

func TestWriteRefusesLongTexts(t *testing.T) { // 10.2
	many := slices.Repeat([]api.Tok{variable("a")}, 204) // 1020 bytes
	for _, l := range [][]api.Tok{
		{text(strings.Repeat("x", 1024))},
		{text(strings.Repeat("x", 1019)), variable("a")},
		{text(strings.Repeat("x", 1013)), otherwise(), text("yyy")},
		append(slices.Clone(many), text("xxxx")),
	} {
		if s, err := scan.Write(l...); len(s) != 1024 || s != sourceOf(l...) || err != api.OK {
			t.Errorf("Write(%.100v) is %q, %d", l, s, err)
		}
	}
	for _, l := range [][]api.Tok{
		{text(strings.Repeat("x", 1025))},
		{text(strings.Repeat("x", 1020)), variable("a")},
		{text(strings.Repeat("x", 1013)), otherwise(), text("yyyy")},
		append(slices.Clone(many), text("xxxxx")),
		append(slices.Clone(many), variable("a")),
		slices.Repeat([]api.Tok{text(strings.Repeat("x", 100000)), end()}, 1000),
	} {
		if s, err := scan.Write(l...); s != "" || err != api.ErrLong {
			t.Errorf("Write(%.100v) is %.40q, %d, not ErrLong", l, s, err)
		}
		// What is none is told ahead of what is too long.
		if s, err := scan.Write(append(slices.Clone(l), api.Tok{})...); s != "" || err != api.ErrForm {
			t.Errorf("Write(%.100v, nothing) is %.40q, %d, not ErrForm", l, s, err)
		}
	}
}

// lists are all lists of so many right tokens at most.
func lists(most int) [][]api.Tok {
	all, last := [][]api.Tok{nil}, [][]api.Tok{nil}
	for range most {
		var longer [][]api.Tok
		for _, l := range last {
			for _, t := range rights() {
				longer = append(longer, append(slices.Clone(l), t))
			}
		}
		last = longer
		all = append(all, last...)
	}
	return all
}

func TestWrittenTokensAreTheTexts(t *testing.T) { // 10.2, 10.4
	right := 0
	for _, l := range lists(4) {
		// Tokens stand side by side as they may just if their text has them.
		of, is := tokensOf(sourceOf(l...))
		if !is || !same(of, l) {
			if err := scan.Check(l); err != api.ErrForm {
				t.Fatalf("Check(%v) is %d, not ErrForm", l, err)
			}
			continue
		}
		right++
		s, err := scan.Write(l...)
		if scan.Check(l) != api.OK || s != sourceOf(l...) || err != api.OK {
			t.Fatalf("Write(%v) is %q, %d, not %q", l, s, err, sourceOf(l...))
		}
		if again, err := scan.Tokens(s); !same(again, l) || err != api.OK {
			t.Fatalf("Tokens(%q) is %v, %d, not %v", s, again, err, l)
		}
	}
	if right == 0 {
		t.Error("no tokens are right")
	}
}

func TestTokensOfTextsAreWritten(t *testing.T) { // 10.4
	for _, s := range strung([]string{"{{a}}", "{{  if  a.b }}", "{{ end }}", "{{else }}", "{{each if.a}}", "x", "{", "}}", " "}, 5) {
		l, err := scan.Tokens(s)
		if err != api.OK {
			continue
		}
		again, err := scan.Write(l...)
		if scan.Check(l) != api.OK || again != sourceOf(l...) || err != api.OK {
			t.Fatalf("Write of Tokens(%q) is %q, %d", s, again, err)
		}
		if m, err := scan.Tokens(again); !same(m, l) || err != api.OK {
			t.Fatalf("Tokens(%q) is %v, %d, not %v", again, m, err, l)
		}
	}
}

// places are where tokens' memory is, but for an empty text's: of lists the first part, of texts the first byte.
func places(l []api.Tok) []unsafe.Pointer {
	all := []unsafe.Pointer{unsafe.Pointer(unsafe.SliceData(l))}
	for _, t := range l {
		if t.Text != "" {
			all = append(all, unsafe.Pointer(unsafe.StringData(t.Text)))
		}
		if len(t.Path) > 0 {
			all = append(all, unsafe.Pointer(unsafe.SliceData(t.Path)))
		}
		for _, name := range t.Path {
			all = append(all, unsafe.Pointer(unsafe.StringData(name)))
		}
	}
	return all
}

func TestAnswersAreNewMemory(t *testing.T) { // 10.3
	s := strings.Clone("some text{{name.of.it}}{{name.of.it}}more{{if this}}x{{end}}")
	one, _ := scan.Tokens(s)
	two, _ := scan.Tokens(s)
	word := strings.Clone("name.of.it")
	path, _ := scan.Path(word)
	again, _ := scan.Path(word)
	seen := map[unsafe.Pointer]bool{}
	for _, l := range [][]api.Tok{one, two, {{Path: path}}, {{Path: again}}} {
		for _, p := range places(l) {
			if seen[p] {
				t.Error("an answer shares memory")
			}
			seen[p] = true
		}
	}
	for _, of := range []string{s, word} {
		begin := uintptr(unsafe.Pointer(unsafe.StringData(of)))
		for p := range seen {
			if at := uintptr(p); at >= begin && at < begin+uintptr(len(of)) {
				t.Error("an answer is a piece of what was handed in")
			}
		}
	}
	alone := strings.Clone("a text alone")
	if written, _ := scan.Write(text(alone)); unsafe.StringData(written) == unsafe.StringData(alone) {
		t.Error("what is written is what was handed in")
	}
}

func TestWhatIsHandedInStays(t *testing.T) { // 10.3
	l := []api.Tok{text("x"), when("a.b"), otherwise(), end(), text("spare")}
	was := slices.Clone(l)
	was[1].Path = slices.Clone(l[1].Path)
	scan.Check(l[:4])
	s, _ := scan.Write(l[:4]...)
	if !reflect.DeepEqual(l, was) {
		t.Error("what was handed in was changed")
	}
	one, _ := scan.Tokens(s)
	one[0].Text, one[1].Path[0] = "changed", "changed"
	_ = append(one[1].Path[:1], "changed")
	_ = append(one[:1], end())
	if two, _ := scan.Tokens(s); !same(two, was[:4]) {
		t.Errorf("an answer hangs on an earlier one: %v", two)
	}
}
