package render_test

import (
	"strings"
	"testing"

	"bellman/api"
	"bellman/render"
	"bellman/tree"
)

// channels are those that there are.
var channels = []api.Channel{api.ChannelPush, api.ChannelEmail, api.ChannelSms}

// The kinds of values, made short.
func text(s string) api.Value           { return api.Value{Kind: api.ValueText, Text: s} }
func num(n int64) api.Value             { return api.Value{Kind: api.ValueNum, Num: n} }
func boolean(n int64) api.Value         { return api.Value{Kind: api.ValueBool, Num: n} }
func list(items ...api.Value) api.Value { return api.Value{Kind: api.ValueList, Items: items} }

// object is a map of the names, between which there are spaces, and their items.
func object(names string, items ...api.Value) api.Value {
	return api.Value{Kind: api.ValueMap, Names: strings.Fields(names), Items: items}
}

// many is a list of so many numbers.
func many(n int) api.Value {
	v := list()
	for i := range n {
		v.Items = append(v.Items, num(int64(i)))
	}
	return v
}

// parsed are a template's nodes.
func parsed(t *testing.T, s string) []api.Node {
	t.Helper()
	l, err := tree.Parse(s)
	if err != api.OK {
		t.Fatalf("Parse(%s) is %d", s, err)
	}
	return l
}

// checkText holds Text, and Fill, against what they are to answer.
func checkText(t *testing.T, s string, v api.Value, c api.Channel, want string, no api.Errno) {
	t.Helper()
	if got, err := render.Text(s, v, c); got != want || err != no {
		t.Errorf("Text(%.200q, %d) is %.200q, %d, not %.200q, %d", s, c, got, err, want, no)
	}
	if got, err := render.Fill(parsed(t, s), v, c); got != want || err != no {
		t.Errorf("Fill of %.200q, %d is %.200q, %d, not %.200q, %d", s, c, got, err, want, no)
	}
}

func TestExampleOfTheChapter(t *testing.T) { // 14.1
	for _, c := range channels {
		checkText(t, "{{each l}}{{this}},{{end}}", object("l", list(num(1), num(2))), c, "1,2,", api.OK)
	}
}

func TestValuesAreFilledInAsTexts(t *testing.T) { // 14.1
	for want, v := range map[string]api.Value{
		"some text":            text("some text"),
		"":                     text(""),
		"0":                    num(0),
		"-3":                   num(-3),
		"-9223372036854775808": num(-1 << 63),
		"yes":                  boolean(1),
		"no":                   boolean(0),
		"3":                    many(3),
		"2":                    object("a b", num(7), num(8)),
	} {
		for _, c := range channels {
			checkText(t, "{{a}}", object("a", v), c, want, api.OK)
			checkText(t, "x{{b.a}}y", object("b", object("a", v)), c, "x"+want+"y", api.OK)
			checkText(t, "{{each l}}{{this}}{{end}}", object("l", list(v, v)), c, want+want, api.OK)
		}
	}
}

func TestTextsAreAsTheChannelsCarryThem(t *testing.T) { // 14.1
	raw := "<\"\\'&\n\t\x01\u00e9\u00e9"
	for c, want := range map[api.Channel][2]string{
		api.ChannelPush:  {`<\"\\'&\n\t\u0001` + "\u00e9\u00e9", `<\"\\'&\n\t\u0001` + "\u00e9\u00e9"},
		api.ChannelEmail: {raw, "&lt;&quot;\\&#39;&amp;\n\t\x01\u00e9\u00e9"},
		api.ChannelSms:   {`<"\'&  ?`, `<"\'&  ?`},
	} {
		checkText(t, raw, object(""), c, want[0], api.OK)
		checkText(t, "{{a}}", object("a", text(raw)), c, want[1], api.OK)
		checkText(t, raw+"{{a}}"+raw, object("a", text(raw)), c, want[0]+want[1]+want[0], api.OK)
		checkText(t, "{{if a}}"+raw+"{{a}}{{end}}{{each l}}"+raw+"{{this}}{{end}}", object("a l", text(raw), list(text(raw))), c, want[0]+want[1]+want[0]+want[1], api.OK)
	}
}

func TestEachTextOfAShortTextHasRunsOfItsOwn(t *testing.T) { // 14.1
	v := object("a l", text("\u00e9\u00e9"), list(text("\u00e9"), text("\u00e9"), text("\u00e8x")))
	checkText(t, "\u00e9\u00e9{{a}}\u00e8", v, api.ChannelSms, "???", api.OK)
	checkText(t, "{{each l}}{{this}}{{end}}", v, api.ChannelSms, "???x", api.OK)
}

func TestIfTellsKidsOrElse(t *testing.T) { // 14.1
	const both, alone = "{{if a}}x{{else}}y{{end}}", "[{{if a}}x{{end}}]"
	for _, c := range []struct {
		v     api.Value
		holds bool
	}{
		{object(""), false},
		{object("b", num(1)), false},
		{object("a", text("")), false},
		{object("a", text(" ")), true},
		{object("a", text("no")), true},
		{object("a", num(0)), false},
		{object("a", num(-1)), true},
		{object("a", boolean(0)), false},
		{object("a", boolean(1)), true},
		{object("a", list()), false},
		{object("a", list(num(0))), true},
		{object("a", object("")), false},
		{object("a", object("a", num(0))), true},
		{text("a"), false},
		{num(1), false},
		{list(object("a", num(1))), false},
	} {
		want, inside := "y", "[]"
		if c.holds {
			want, inside = "x", "[x]"
		}
		for _, channel := range channels {
			checkText(t, both, c.v, channel, want, api.OK)
			checkText(t, alone, c.v, channel, inside, api.OK)
		}
	}
	for s, want := range map[string]string{
		"{{if a.b}}x{{else}}y{{end}}":                                  "y",
		"{{if this}}x{{else}}y{{end}}":                                 "y",
		"{{if this.a}}x{{else}}y{{end}}":                               "y",
		"{{if z}}{{none}}{{else}}{{if a}}x{{end}}{{end}}":              "x",
		"{{if a}}{{if z}}x{{else}}y{{end}}{{else}}{{none}}{{end}}":     "y",
		"{{if z}}{{each a}}{{none}}{{end}}{{end}}{{if a}}{{a}}{{end}}": "1",
	} {
		checkText(t, s, object("a", num(1)), api.ChannelPush, want, api.OK)
	}
}

func TestEachTellsItems(t *testing.T) { // 14.1
	v := object("empty grid l n",
		list(),
		list(many(2), list(), many(3)),
		list(object("n", text("x")), object("m", list(num(5), num(6))), num(9), object("m n", list(), num(1))),
		text("out"))
	for s, want := range map[string]string{
		"[{{each empty}}{{none}}{{end}}]": "[]",
		"{{each l}}{{end}}":               "",
		"{{each l}}-{{end}}":              "----",
		"{{each l}}{{n}} {{end}}":         "x out out 1 ",
		"{{each l}}{{if m}}{{each m}}{{this}}{{n}} {{end}}{{end}};{{end}}":      ";5out 6out ;;;",
		"{{each grid}}{{each this}}{{this}},{{end}};{{end}}":                    "0,1,;;0,1,2,;",
		"{{each grid}}{{this}}{{each l}}{{this}}{{end}}{{this}} {{end}}":        "211922 011920 311923 ",
		"{{each l}}{{if this.n}}{{this.n}}{{else}}-{{end}}{{end}}":              "x--1",
		"{{each l}}{{if this}}+{{else}}-{{end}}{{end}}{{if n}}{{n}}{{end}}":     "++++out",
		"{{each l}}{{each grid}}{{n}}{{end}}{{end}}":                            "xxxoutoutoutoutoutout111",
		"{{each l}}{{if n}}{{else}}{{none}}{{end}}{{end}}{{each empty}}{{end}}": "",
	} {
		checkText(t, s, v, api.ChannelPush, want, api.OK)
	}
}

func TestNothingIsFilledInForNothing(t *testing.T) { // 14.1
	v := object("a b l", num(1), object("c", num(2)), list(object("a", num(3)), object("d", num(4))))
	for s, no := range map[string]api.Errno{
		"{{z}}":                                 api.ErrNone,
		"x{{z}}":                                api.ErrNone,
		"{{a.z}}":                               api.ErrNone,
		"{{b.z}}":                               api.ErrNone,
		"{{b.c.z}}":                             api.ErrNone,
		"{{l.a}}":                               api.ErrNone,
		"{{this}}":                              api.ErrNone,
		"{{this.a}}":                            api.ErrNone,
		"{{each z}}{{end}}":                     api.ErrNone,
		"{{each b.z}}{{end}}":                   api.ErrNone,
		"{{each this}}{{end}}":                  api.ErrNone,
		"{{each l}}{{this.a}}{{end}}":           api.ErrNone,
		"{{each l}}{{d}}{{end}}":                api.ErrNone,
		"{{each l}}{{end}}{{this}}":             api.ErrNone,
		"{{each l}}{{this.this}}{{end}}":        api.ErrNone,
		"{{if a}}{{z}}{{end}}":                  api.ErrNone,
		"{{if z}}{{else}}{{z}}{{end}}":          api.ErrNone,
		"{{each a}}{{end}}":                     api.ErrCode,
		"{{each b}}{{end}}":                     api.ErrCode,
		"{{each b.c}}{{end}}":                   api.ErrCode,
		"{{each l}}{{each this}}{{end}}{{end}}": api.ErrCode,
		"{{if a}}{{each a}}{{z}}{{end}}{{end}}": api.ErrCode,
	} {
		for _, c := range channels {
			checkText(t, s, v, c, "", no)
		}
	}
	for _, kind := range []api.Value{text("l"), num(1), boolean(0), object(""), object("l", list())} {
		checkText(t, "{{each a}}{{end}}", object("a", kind), api.ChannelPush, "", api.ErrCode)
	}
}

func TestTheFirstThatStopsIsTold(t *testing.T) { // 14.1
	v := object("a l long", num(1), many(3), text(strings.Repeat("x", 4096)))
	for s, no := range map[string]api.Errno{
		"{{z}}{{each a}}{{end}}":                       api.ErrNone,
		"{{each a}}{{end}}{{z}}":                       api.ErrCode,
		"{{each a}}{{z}}{{end}}":                       api.ErrCode,
		"{{long}}{{z}}":                                api.ErrLong,
		"{{z}}{{long}}":                                api.ErrNone,
		"{{long}}{{each a}}{{end}}":                    api.ErrLong,
		"{{each a}}{{long}}{{end}}":                    api.ErrCode,
		"{{each z}}{{long}}{{end}}":                    api.ErrNone,
		"{{each l}}{{long}}{{z}}{{end}}":               api.ErrLong,
		"{{each l}}{{z}}{{end}}{{long}}":               api.ErrNone,
		"{{if a}}{{long}}{{end}}{{each a}}{{end}}":     api.ErrLong,
		"{{if long}}{{each a}}{{end}}{{end}}{{long}}":  api.ErrCode,
		"{{if z}}{{long}}{{else}}{{z}}{{end}}{{long}}": api.ErrNone,
		"{{a}}{{a}}{{a}}{{each this}}{{end}}{{long}}":  api.ErrNone,
	} {
		for _, c := range channels {
			checkText(t, s, v, c, "", no)
		}
	}
}

func TestMessagesAreAsLongAsMayBe(t *testing.T) { // 14.1
	for c, most := range map[api.Channel]int{api.ChannelPush: 256, api.ChannelEmail: 2048, api.ChannelSms: 160} {
		x := strings.Repeat("x", most-2)
		v := object("b e l x", text("xx"), text(""), list(text("x"), text("x"), text("x")), text(x))
		for s, want := range map[string]string{
			"{{x}}":                           x,
			"{{x}}{{b}}":                      x + "xx",
			"{{x}}xx":                         x + "xx",
			"xx{{x}}":                         x + "xx",
			"{{b}}{{x}}":                      x + "xx",
			"{{b}}{{x}}{{e}}{{if e}}{{end}}":  x + "xx",
			"{{x}}{{b}}x":                     "",
			"x{{x}}{{b}}":                     "",
			"{{x}}xxx":                        "",
			"{{each l}}{{this}}{{end}}{{x}}":  "",
			"{{x}}{{each l}}{{this}}{{end}}":  "",
			"{{x}}{{each l}}x{{end}}":         "",
			"{{x}}{{if x}}{{b}}x{{e}}{{end}}": "",
		} {
			no := api.OK
			if want == "" {
				no = api.ErrLong
			}
			checkText(t, s, v, c, want, no)
		}
		plain := []api.Node{{Kind: api.TokText, Text: x + "xx"}}
		if got, err := render.Fill(plain, v, c); got != x+"xx" || err != api.OK {
			t.Errorf("Fill of a text that is as long as may be is %.100q, %d", got, err)
		}
		plain[0].Text += "x"
		if got, err := render.Fill(plain, v, c); got != "" || err != api.ErrLong {
			t.Errorf("Fill of a text that is too long is %.100q, %d", got, err)
		}
	}
}

func TestBytesCountAsTheChannelsCarryThem(t *testing.T) { // 14.1
	for _, c := range []struct {
		channel   api.Channel
		s, stands string
		most      int
		plain     bool
	}{
		{api.ChannelPush, "\n", `\n`, 128, true},
		{api.ChannelPush, "\n", `\n`, 128, false},
		{api.ChannelPush, "\x01", `\u0001`, 42, false},
		{api.ChannelPush, "\u00e9", "\u00e9", 128, true},
		{api.ChannelEmail, "'", "&#39;", 409, false},
		{api.ChannelEmail, "<", "&lt;", 512, false},
		{api.ChannelEmail, "<", "<", 2048, true},
		{api.ChannelSms, "\u00e9 ", "? ", 80, true},
		{api.ChannelSms, "\n", " ", 160, false},
	} {
		for n := 1; n <= c.most+1; n++ {
			s, v, want, no := strings.Repeat(c.s, n), object(""), strings.Repeat(c.stands, n), api.OK
			l := []api.Node{{Kind: api.TokText, Text: s}}
			if !c.plain {
				l, v = []api.Node{{Kind: api.TokVar, Path: []string{"a"}}}, object("a", text(s))
			}
			if n > c.most {
				want, no = "", api.ErrLong
			}
			if got, err := render.Fill(l, v, c.channel); got != want || err != no {
				t.Fatalf("Fill of %d times %q for %d is %.100q, %d", n, c.s, c.channel, got, err)
			}
		}
	}
	checkText(t, "{{a}}", object("a", text(strings.Repeat("\xff", 4096))), api.ChannelSms, "?", api.OK)
}

func TestStepsAreAsManyAsMayBe(t *testing.T) { // 14.1
	v := object("e l one", text(""), many(240), many(1))
	// An if, an else, a text, a path and an each are one step each time.
	const ifs, elses, vars, eaches = "{{if one}}{{end}}", "{{if e}}{{z}}{{else}}{{end}}", "{{e}}", "{{each l}}{{end}}"
	for _, kid := range []string{ifs, elses, vars, eaches, "{{each one}}{{end}}"} {
		inner := "{{each l}}" + strings.Repeat(kid, 17) + "{{end}}" // 4081 steps
		checkText(t, inner, v, api.ChannelEmail, "", api.OK)
		checkText(t, inner+strings.Repeat(kid, 15), v, api.ChannelEmail, "", api.OK)
		checkText(t, inner+strings.Repeat(kid, 16), v, api.ChannelEmail, "", api.ErrLong)
		checkText(t, strings.Repeat(kid, 16)+inner, v, api.ChannelEmail, "", api.ErrLong)
		checkText(t, inner+strings.Repeat(kid, 14)+"{{z}}", v, api.ChannelEmail, "", api.ErrNone)
		checkText(t, inner+strings.Repeat(kid, 14)+"{{each e}}{{end}}", v, api.ChannelEmail, "", api.ErrCode)
		checkText(t, inner+strings.Repeat(kid, 15)+"{{z}}", v, api.ChannelEmail, "", api.ErrLong)
		checkText(t, inner+strings.Repeat(kid, 15)+"{{each e}}{{end}}", v, api.ChannelEmail, "", api.ErrLong)
		checkText(t, inner+strings.Repeat(kid, 13)+"{{if one}}"+kid+"{{end}}", v, api.ChannelEmail, "", api.OK)
		checkText(t, inner+strings.Repeat(kid, 14)+"{{if one}}"+kid+"{{end}}", v, api.ChannelEmail, "", api.ErrLong)
		checkText(t, inner+strings.Repeat(kid, 14)+"{{if e}}"+kid+"{{z}}{{end}}", v, api.ChannelEmail, "", api.OK)
	}
}

func TestTextsAreStepsToo(t *testing.T) { // 14.1
	v := object("e l", text(""), many(240))
	x := strings.Repeat("x", 1920)
	inner := "{{each l}}" + strings.Repeat("x{{e}}", 8) + "{{e}}{{end}}" // 4081 steps, of them 1920 texts
	checkText(t, inner+strings.Repeat("x{{e}}", 7)+"x", v, api.ChannelEmail, x+strings.Repeat("x", 8), api.OK)
	checkText(t, inner+strings.Repeat("x{{e}}", 8), v, api.ChannelEmail, "", api.ErrLong)
	checkText(t, inner+strings.Repeat("x{{e}}", 7)+"{{e}}x", v, api.ChannelEmail, "", api.ErrLong)
}

func TestNodesWithinNodesAreSteps(t *testing.T) { // 14.1
	const deep, kid = "{{each l}}{{each l}}{{each m}}{{if z}}{{end}}{{end}}{{end}}{{end}}", "{{if z}}{{end}}"
	v := object("l m", many(16), many(14)) // 1 + 16 + 16*16 + 16*16*14 steps: there are 239 more
	tail := "{{each l}}" + strings.Repeat(kid, 14) + "{{end}}" + strings.Repeat(kid, 13)
	checkText(t, deep, v, api.ChannelSms, "", api.OK)
	checkText(t, deep+tail, v, api.ChannelSms, "", api.OK)
	checkText(t, deep+tail+kid, v, api.ChannelSms, "", api.OK)
	checkText(t, deep+tail+kid+kid, v, api.ChannelSms, "", api.ErrLong)
	checkText(t, kid+kid+deep+tail, v, api.ChannelSms, "", api.ErrLong)
	checkText(t, deep, object("l m", many(16), many(15)), api.ChannelSms, "", api.ErrLong)
}
