package entry_test

import (
	"fmt"
	"math"
	"slices"
	"strings"
	"testing"

	"bellman/api"
	"bellman/entry"
)

var (
	noNames = []string{"", "A", "Ann", "1a", "_a", "a.b", "a b", "a-b", " a", "a ", "\u00e9", "a\x00", "a\n", strings.Repeat("a", 33), strings.Repeat("a", 100000)}
	names   = []string{"a", "z", "a0", "a_", "ab", "ann", "x9_", strings.Repeat("z", 32)}
	numbers = []int64{0, 1, -1, 60, 255, 256, 300, 1 << 40, -(1 << 40), math.MinInt64, math.MaxInt64}
)

// The kinds of values, made short.
func text(s string) api.Value           { return api.Value{Kind: api.ValueText, Text: s} }
func num(n int64) api.Value             { return api.Value{Kind: api.ValueNum, Num: n} }
func list(items ...api.Value) api.Value { return api.Value{Kind: api.ValueList, Items: items} }

// berlin are quiet hours by the clocks of a place that has a summer.
func berlin(week ...api.Range) api.Quiet {
	return api.Quiet{
		Zone: api.Zone{Base: 60, Save: 60, From: api.Switch{Month: 3, Nth: 5, Weekday: 0, Minute: 120}, To: api.Switch{Month: 10, Nth: 5, Weekday: 6, Minute: 180}},
		Week: week,
	}
}

// ranges are so many ranges of a week.
func ranges(many int) []api.Range {
	var l []api.Range
	for i := range many {
		l = append(l, api.Range{From: 100 * i, To: 100*i + 50})
	}
	return l
}

// news is a right category, of which some things are others.
func news(change func(c *api.Category)) api.Category {
	c := api.Category{Name: "news", Critical: true, Window: 60, Bound: 3, Chain: []api.Level{{Channel: 1, Wait: 300, Tries: 2, Pause: 10}, {Channel: 2, Wait: 0, Tries: 1, Pause: 1}}, Source: "{{user}}: {{count}}"}
	change(&c)
	return c
}

// categories are right ones.
func categories() []api.Category {
	level := api.Level{Channel: 3, Wait: 2592000, Tries: 5, Pause: 2592000}
	return []api.Category{
		news(func(c *api.Category) {}),
		news(func(c *api.Category) { c.Critical = false }),
		news(func(c *api.Category) { c.Window, c.Bound = 0, 0 }),
		news(func(c *api.Category) { c.Window, c.Bound = 2592000, 16 }),
		news(func(c *api.Category) { c.Source = "" }),
		news(func(c *api.Category) { c.Source = strings.Repeat("x", 1024) }),
		news(func(c *api.Category) { c.Chain = []api.Level{level} }),
		news(func(c *api.Category) { c.Chain = []api.Level{level, level, {Channel: 1, Tries: 1, Pause: 1}, level} }),
		news(func(c *api.Category) { c.Name = names[7] }),
	}
}

// rights are right commands, each edge among them.
func rights() []api.Command {
	all := []api.Command{{Kind: api.CommandPrune}}
	for _, q := range []api.Quiet{{}, berlin(), berlin(ranges(1)...), berlin(ranges(64)...), {Week: []api.Range{{From: 0, To: 10080}}}, {Zone: api.Zone{Base: -900}}, {Zone: api.Zone{Base: 900}, Week: ranges(2)}} {
		all = append(all, api.Command{Kind: api.CommandUser, User: "ann", Quiet: q})
	}
	for i, name := range names {
		for _, kind := range []api.CommandKind{api.CommandOff, api.CommandOn} {
			all = append(all, api.Command{Kind: kind, User: name})
			for c := range api.ChannelCount {
				all = append(all, api.Command{Kind: kind, User: name, Out: api.Out{Category: names[7-i], Channel: c}}, api.Command{Kind: kind, User: name, Out: api.Out{Channel: c}})
			}
		}
		all = append(all, api.Command{Kind: api.CommandUser, User: name}, api.Command{Kind: api.CommandEvent, User: name, Name: names[7-i], Data: num(3)})
	}
	for _, c := range categories() {
		all = append(all, api.Command{Kind: api.CommandCategory, Category: c})
	}
	for _, v := range []api.Value{num(0), num(math.MinInt64), text(""), text(strings.Repeat("x", 4096)), {Kind: api.ValueBool}, {Kind: api.ValueBool, Num: 1}, list(), list(num(1), list(text("a"))), {Kind: api.ValueMap}, {Kind: api.ValueMap, Names: []string{"a", "b"}, Items: []api.Value{num(1), text("x")}}, list(slices.Repeat([]api.Value{num(7)}, 255)...)} {
		all = append(all, api.Command{Kind: api.CommandEvent, User: "ann", Name: "news", Data: v})
	}
	for _, n := range numbers {
		all = append(all, api.Command{Kind: api.CommandAck, Ref: n}, api.Command{Kind: api.CommandClock, Seconds: n})
		all = append(all, api.Command{Kind: api.CommandResult, Ref: n}, api.Command{Kind: api.CommandResult, Ref: n, Good: true})
	}
	return all
}

// plain is a right command of that kind, in which nothing that it may have is zero.
func plain(kind api.CommandKind) api.Command {
	switch kind {
	case api.CommandUser:
		return api.Command{Kind: kind, User: "ann", Quiet: berlin(ranges(2)...)}
	case api.CommandOff, api.CommandOn:
		return api.Command{Kind: kind, User: "ann", Out: api.Out{Category: "news", Channel: 3}}
	case api.CommandCategory:
		return api.Command{Kind: kind, Category: categories()[0]}
	case api.CommandEvent:
		return api.Command{Kind: kind, User: "ann", Name: "news", Data: text("x")}
	case api.CommandAck:
		return api.Command{Kind: kind, Ref: 5}
	case api.CommandResult:
		return api.Command{Kind: kind, Ref: 5, Good: true}
	case api.CommandClock:
		return api.Command{Kind: kind, Seconds: 60}
	}
	return api.Command{Kind: kind}
}

// extras change a field of a command, each another one, or a part of one.
func extras() map[string]func(c *api.Command) {
	return map[string]func(c *api.Command){
		"user":         func(c *api.Command) { c.User = "ann" },
		"quiet, base":  func(c *api.Command) { c.Quiet.Zone.Base = 60 },
		"quiet, save":  func(c *api.Command) { c.Quiet.Zone.Save = 60 },
		"quiet, from":  func(c *api.Command) { c.Quiet.Zone.From.Minute = 1 },
		"quiet, to":    func(c *api.Command) { c.Quiet.Zone.To.Month = 1 },
		"quiet, week":  func(c *api.Command) { c.Quiet.Week = ranges(1) },
		"quiet, zero":  func(c *api.Command) { c.Quiet.Week = make([]api.Range, 1) },
		"out, name":    func(c *api.Command) { c.Out.Category = "news" },
		"out, channel": func(c *api.Command) { c.Out.Channel = 1 },
		"category":     func(c *api.Command) { c.Category = categories()[0] },
		"its name":     func(c *api.Command) { c.Category.Name = "news" },
		"critical":     func(c *api.Command) { c.Category.Critical = true },
		"window":       func(c *api.Command) { c.Category.Window = 60 },
		"bound":        func(c *api.Command) { c.Category.Bound = 1 },
		"chain":        func(c *api.Command) { c.Category.Chain = make([]api.Level, 1) },
		"source":       func(c *api.Command) { c.Category.Source = "x" },
		"name":         func(c *api.Command) { c.Name = "news" },
		"data":         func(c *api.Command) { c.Data = num(0) },
		"data, text":   func(c *api.Command) { c.Data.Text = "x" },
		"data, num":    func(c *api.Command) { c.Data.Num = 1 },
		"data, items":  func(c *api.Command) { c.Data.Items = make([]api.Value, 1) },
		"data, names":  func(c *api.Command) { c.Data.Names = make([]string, 1) },
		"ref":          func(c *api.Command) { c.Ref = 5 },
		"ref below":    func(c *api.Command) { c.Ref = -1 },
		"good":         func(c *api.Command) { c.Good = true },
		"seconds":      func(c *api.Command) { c.Seconds = 60 },
	}
}

// has tells which of the extras a command of that kind has, by the words that they begin with.
func has(kind api.CommandKind) []string {
	switch kind {
	case api.CommandUser:
		return []string{"user", "quiet"}
	case api.CommandOff, api.CommandOn:
		return []string{"user", "out"}
	case api.CommandCategory:
		return []string{"category", "its", "critical", "window", "bound", "chain", "source"}
	case api.CommandEvent:
		return []string{"user", "name", "data"}
	case api.CommandAck:
		return []string{"ref"}
	case api.CommandResult:
		return []string{"ref", "good"}
	case api.CommandClock:
		return []string{"seconds"}
	}
	return nil
}

// within is a list that has itself within.
func within() api.Value {
	v := list(make([]api.Value, 2)...)
	v.Items[0], v.Items[1] = v, v
	return v
}

// wrongs are commands that are not right, each by one thing.
func wrongs() map[string]api.Command {
	all := map[string]api.Command{"nothing": {}}
	for kind := range 256 {
		if kind < 1 || kind > 9 {
			all[fmt.Sprint("kind ", kind)] = api.Command{Kind: api.CommandKind(kind)}
			all[fmt.Sprint("kind of a clock ", kind)] = api.Command{Kind: api.CommandKind(kind), Seconds: 60}
		}
	}
	for kind := api.CommandUser; kind < api.CommandCount; kind++ {
		for name, change := range extras() {
			c := plain(kind)
			if word, _, _ := strings.Cut(strings.ReplaceAll(name, ",", " "), " "); !slices.Contains(has(kind), word) {
				change(&c)
				all[fmt.Sprintf("kind %d with more: %s", kind, name)] = c
			}
		}
	}
	put := func(name string, kind api.CommandKind, change func(c *api.Command)) {
		c := plain(kind)
		change(&c)
		all[fmt.Sprintf("kind %d: %s", kind, name)] = c
	}
	for i, name := range noNames {
		for _, kind := range []api.CommandKind{api.CommandUser, api.CommandOff, api.CommandOn, api.CommandEvent} {
			put(fmt.Sprint("no user ", i), kind, func(c *api.Command) { c.User = name })
		}
		put(fmt.Sprint("no name ", i), api.CommandEvent, func(c *api.Command) { c.Name = name })
		put(fmt.Sprint("no category ", i), api.CommandCategory, func(c *api.Command) { c.Category.Name = name })
		if name != "" {
			put(fmt.Sprint("no out ", i), api.CommandOff, func(c *api.Command) { c.Out.Category = name })
			put(fmt.Sprint("no out ", i), api.CommandOn, func(c *api.Command) { c.Out.Category = name })
		}
	}
	for _, channel := range []api.Channel{4, 5, 255} {
		put(fmt.Sprint("no channel ", channel), api.CommandOff, func(c *api.Command) { c.Out.Channel = channel })
		put(fmt.Sprint("no channel ", channel), api.CommandOn, func(c *api.Command) { c.Out.Channel = channel })
		put(fmt.Sprint("no channel ", channel), api.CommandCategory, func(c *api.Command) { c.Category.Chain[1].Channel = channel })
	}
	put("base", api.CommandUser, func(c *api.Command) { c.Quiet.Zone.Base = 901 })
	put("save", api.CommandUser, func(c *api.Command) { c.Quiet.Zone.Save = 0 })
	put("switch", api.CommandUser, func(c *api.Command) { c.Quiet.Zone.From.Nth = 6 })
	put("week", api.CommandUser, func(c *api.Command) { c.Quiet.Week[1].From = 50 })
	put("65 ranges", api.CommandUser, func(c *api.Command) { c.Quiet.Week = ranges(65) })
	put("no chain", api.CommandCategory, func(c *api.Command) { c.Category.Chain = nil })
	put("five levels", api.CommandCategory, func(c *api.Command) { c.Category.Chain = make([]api.Level, 5) })
	put("no bound", api.CommandCategory, func(c *api.Command) { c.Category.Bound = 0 })
	put("window", api.CommandCategory, func(c *api.Command) { c.Category.Window = -1 })
	put("source", api.CommandCategory, func(c *api.Command) { c.Category.Source = "{{other}}" })
	put("tries", api.CommandCategory, func(c *api.Command) { c.Category.Chain[0].Tries = 0 })
	put("no data", api.CommandEvent, func(c *api.Command) { c.Data = api.Value{} })
	put("wrong data", api.CommandEvent, func(c *api.Command) { c.Data.Num = 1 })
	put("text too long", api.CommandEvent, func(c *api.Command) { c.Data = text(strings.Repeat("x", 4097)) })
	put("data within data", api.CommandEvent, func(c *api.Command) { c.Data = within() })
	put("data within none", api.CommandPrune, func(c *api.Command) { c.Data = within() })
	return all
}

// told is something as a text; nil and empty lists are told alike.
func told(of ...any) string {
	return fmt.Sprintf("%+v", of)
}

func TestCheckTellsWhatIsRight(t *testing.T) { // 24.1
	for _, c := range rights() {
		if err := entry.Check(c); err != api.OK {
			t.Errorf("Check of %+v is %d", c, err)
		}
		// Empty lists are like none.
		if c.Kind != api.CommandUser && c.Kind != api.CommandCategory && c.Kind != api.CommandEvent {
			c.Quiet.Week, c.Category.Chain, c.Data.Items, c.Data.Names = []api.Range{}, []api.Level{}, []api.Value{}, []string{}
		}
		if err := entry.Check(c); err != api.OK {
			t.Errorf("Check of %+v with empty lists is %d", c, err)
		}
	}
	for name, c := range wrongs() {
		if err := entry.Check(c); err != api.ErrForm {
			t.Errorf("%s: Check is %d, not ErrForm", name, err)
		}
	}
}

func TestUserTellsWhose(t *testing.T) { // 24.1
	for _, c := range rights() {
		want, no := "", api.ErrNone
		switch c.Kind {
		case api.CommandUser, api.CommandOff, api.CommandOn, api.CommandEvent:
			want, no = c.User, api.OK
		}
		if user, err := entry.User(c); user != want || err != no {
			t.Errorf("User of %+v is %q, %d, not %q, %d", c, user, err, want, no)
		}
	}
	for name, c := range wrongs() {
		if user, err := entry.User(c); user != "" || err != api.ErrForm {
			t.Errorf("%s: User is %q, %d, not ErrForm", name, user, err)
		}
	}
}
