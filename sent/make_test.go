package sent_test

import (
	"math/rand"
	"strconv"
	"strings"
	"testing"

	"bellman/api"
	"bellman/render"
	"bellman/sent"
	"bellman/value"
)

// The kinds of values, made short.
func text(s string) api.Value           { return api.Value{Kind: api.ValueText, Text: s} }
func num(n int64) api.Value             { return api.Value{Kind: api.ValueNum, Num: n} }
func list(items ...api.Value) api.Value { return api.Value{Kind: api.ValueList, Items: items} }

// nums are so many numbers.
func nums(many int) []api.Value {
	var l []api.Value
	for i := range many {
		l = append(l, num(int64(i)))
	}
	return l
}

// nested is v within so many lists.
func nested(v api.Value, many int) api.Value {
	for range many {
		v = list(v)
	}
	return v
}

// within is a list that has itself within.
func within() api.Value {
	v := list(make([]api.Value, 2)...)
	v.Items[0], v.Items[1] = v, v
	return v
}

// sending is a right flow that is to be sent.
func sending() api.Flow {
	return api.Flow{Id: 2, User: "ann", Category: "news", Events: []int64{1, 4}, Phase: api.FlowOut, Level: 1, Rank: 1, Tries: 3, At: 90}
}

// chained is a right category of that template and those channels.
func chained(source string, channels ...api.Channel) api.Category {
	c := api.Category{Name: "news", Source: source}
	for _, channel := range channels {
		c.Chain = append(c.Chain, api.Level{Channel: channel, Tries: 5, Pause: 1})
	}
	return c
}

// wrongFlows are flows that are not right.
func wrongFlows() []api.Flow {
	with := func(change func(f *api.Flow)) api.Flow {
		f := sending()
		change(&f)
		return f
	}
	return []api.Flow{
		{},
		with(func(f *api.Flow) { f.Id = 0 }),
		with(func(f *api.Flow) { f.User = "Ann" }),
		with(func(f *api.Flow) { f.Category = "" }),
		with(func(f *api.Flow) { f.Events = nil }),
		with(func(f *api.Flow) { f.Events = []int64{4, 1} }),
		with(func(f *api.Flow) { f.Phase = 8 }),
		with(func(f *api.Flow) { f.Level = 5 }),
		with(func(f *api.Flow) { f.Rank = -1 }),
		with(func(f *api.Flow) { f.Tries = 6 }),
		with(func(f *api.Flow) { f.At = maxTime + 1 }),
	}
}

// wrongCategories are categories that are not right.
func wrongCategories() []api.Category {
	return []api.Category{{}, chained(""), chained("{{", 1, 2), chained("{{other}}", 1, 2), chained("{{this}}", 1, 2), chained("", 1, 4), {Name: "News", Chain: chained("", 1, 2).Chain}}
}

// wrongItems are values that are not right.
func wrongItems() []api.Value {
	return []api.Value{{}, {Kind: 6}, {Kind: api.ValueBool, Num: 2}, {Kind: api.ValueNum, Text: "x"}, nested(num(1), 8), list(nums(256)...), within()}
}

func TestFillTellsWhatATemplateIsFilledWith(t *testing.T) { // 22.1
	for _, items := range [][]api.Value{nil, {num(3)}, {num(3), num(3)}, {text("a"), list(num(1), text("b")), num(-1)}, nums(250), {nested(num(1), 5)}} {
		for rank := range 5 {
			f, c := sending(), chained("", 1, 2)
			f.Rank, f.User, c.Name = rank, names[rank], names[rank+2]
			want := api.Value{
				Kind:  api.ValueMap,
				Names: []string{"category", "count", "items", "rank", "user"},
				Items: []api.Value{text(names[rank+2]), num(int64(len(items))), list(items...), num(int64(rank - 1)), text(names[rank])},
			}
			if v, err := sent.Fill(f, c, items...); told(v) != told(want) || err != api.OK {
				t.Errorf("Fill is %.500s, %d, not %.500s", told(v), err, told(want))
			}
		}
	}
}

func TestFillTellsWhatIsTooDeep(t *testing.T) { // 22.1
	for _, c := range []struct {
		items []api.Value
		err   api.Errno
	}{
		{nums(250), api.OK},
		{nums(251), api.ErrDeep},
		{nums(255), api.ErrDeep},
		{nums(256), api.ErrDeep},
		{nums(5000), api.ErrDeep},
		{[]api.Value{list(nums(249)...)}, api.OK},
		{[]api.Value{list(nums(250)...)}, api.ErrDeep},
		{[]api.Value{list(nums(255)...)}, api.ErrDeep},
		{[]api.Value{list(nums(100)...), list(nums(148)...)}, api.OK},
		{[]api.Value{list(nums(100)...), list(nums(149)...)}, api.ErrDeep},
		{[]api.Value{nested(num(1), 5)}, api.OK},
		{[]api.Value{nested(list(), 5)}, api.OK},
		{[]api.Value{nested(num(1), 6)}, api.ErrDeep},
		{[]api.Value{nested(list(), 7)}, api.ErrDeep},
		{[]api.Value{num(1), num(2), nested(num(1), 6)}, api.ErrDeep},
	} {
		v, err := sent.Fill(sending(), chained("", 1, 2), c.items...)
		if err != c.err || value.Check(v) != api.OK && err == api.OK || told(v) != told(api.Value{}) && err != api.OK {
			t.Errorf("Fill of %.60s is %.60s, %d, not %d", told(c.items), told(v), err, c.err)
		}
		if m, made := sent.Make(1, sending(), chained("", 1, 2), 0, c.items...); made != c.err || made != api.OK && m != (api.Message{}) {
			t.Errorf("Make of %.60s is %+v, %d, not %d", told(c.items), m, made, c.err)
		}
	}
}

// refused fails, if Fill and Make tell another error of those than ErrForm.
func refused(t *testing.T, id int64, f api.Flow, c api.Category, at int64, items ...api.Value) {
	t.Helper()
	if v, err := sent.Fill(f, c, items...); told(v) != told(api.Value{}) || err != api.ErrForm {
		t.Errorf("Fill(%+v, %+v, %.60s) is %.60s, %d, not ErrForm", f, c, told(items), told(v), err)
	}
	if m, err := sent.Make(id, f, c, at, items...); m != (api.Message{}) || err != api.ErrForm {
		t.Errorf("Make(%d, %+v, %+v, %d, %.60s) is %+v, %d, not ErrForm", id, f, c, at, told(items), m, err)
	}
}

func TestFillAndMakeRefuseWhatIsNotRight(t *testing.T) { // 22.1
	f, c := sending(), chained("", 1, 2)
	for _, id := range []int64{1, 0} {
		for _, at := range []int64{0, maxTime + 1} {
			for _, wrong := range wrongFlows() {
				refused(t, id, wrong, c, at)
				refused(t, id, wrong, c, at, nums(300)...)
			}
			for _, wrong := range wrongCategories() {
				refused(t, id, f, wrong, at)
				refused(t, id, f, wrong, at, nested(num(1), 6))
			}
			for _, wrong := range wrongItems() {
				refused(t, id, f, c, at, wrong)
				refused(t, id, f, c, at, num(1), wrong)
				refused(t, id, f, c, at, wrong, nested(num(1), 6))
				// What is not right is told ahead of what is too deep.
				refused(t, id, f, c, at, append(nums(300), wrong)...)
				refused(t, id, f, c, at, nested(num(1), 6), wrong)
			}
		}
	}
}

func TestExampleOfTheChapter(t *testing.T) { // 22.1
	c := chained("{{user}}: {{count}}", 3, 1)
	want := api.Message{Id: 7, Flow: 2, User: "ann", Category: "news", Channel: 1, Try: 3, At: 60, Text: "ann: 2"}
	if m, err := sent.Make(7, sending(), c, 60, num(3), num(9)); m != want || err != api.OK {
		t.Errorf("Make is %+v, %d", m, err)
	}
}

func TestMakeTellsAMessage(t *testing.T) { // 22.1
	r := rand.New(rand.NewSource(22))
	source := "<{{user}}> {{category}} {{count}} {{rank}}{{each items}}, {{this}}{{end}}"
	items := [][]api.Value{nil, {text("<b>"), num(-3)}, nums(9), {list(num(1))}}
	for range 20000 {
		c := chained(source)
		for range 1 + r.Intn(4) {
			c.Chain = append(c.Chain, api.Level{Channel: api.Channel(1 + r.Intn(3)), Tries: 1, Pause: 1})
		}
		f := sending()
		f.Id, f.User, f.Level, f.Rank, f.Tries = counts[r.Intn(7)], names[r.Intn(8)], r.Intn(len(c.Chain)), 1+r.Intn(4), 1+r.Intn(5)
		f.Category, f.Phase = names[r.Intn(8)], api.FlowPhase(r.Intn(8))
		c.Name = f.Category
		id, at, l := counts[r.Intn(7)], times[r.Intn(8)], items[r.Intn(4)]
		v, _ := sent.Fill(f, c, l...)
		channel := c.Chain[f.Level].Channel
		say, err := render.Text(source, v, channel)
		want := api.Message{Id: id, Flow: f.Id, User: f.User, Category: f.Category, Channel: channel, Rank: f.Rank - 1, Try: f.Tries, At: at, Text: say}
		if m, no := sent.Make(id, f, c, at, l...); m != want || err != api.OK || no != api.OK || sent.Check(m) != api.OK {
			t.Fatalf("Make is %+v, %d, not %+v, %d", m, no, want, err)
		}
		if !strings.Contains(say, " "+c.Name+" "+strconv.Itoa(len(l))+" "+strconv.Itoa(f.Rank-1)) {
			t.Fatalf("it tells %s", say)
		}
	}
}

// one is what Make is asked for.
type one struct {
	id int64
	f  api.Flow
	c  api.Category
	at int64
}

// out are what can't be made, each for one number, or name.
func out() []one {
	var all []one
	with := func(change func(o *one)) {
		o := one{7, sending(), chained("", 1, 2), 60}
		change(&o)
		all = append(all, o)
	}
	for _, n := range noCounts {
		with(func(o *one) { o.id = n })
	}
	for _, n := range noTimes {
		with(func(o *one) { o.at = n })
	}
	with(func(o *one) { o.f.Level = 2 })
	with(func(o *one) { o.f.Level = 4 })
	with(func(o *one) { o.c.Chain = o.c.Chain[:1] })
	with(func(o *one) { o.f.Rank = 0 })
	with(func(o *one) { o.f.Tries = 0 })
	with(func(o *one) { o.c.Name = "other" })
	with(func(o *one) { o.f.Category = "other" })
	return all
}

func TestMakeRefusesWhatIsOutOfRange(t *testing.T) { // 22.1
	for _, o := range out() {
		if v, err := sent.Fill(o.f, o.c); v.Kind != api.ValueMap || err != api.OK {
			t.Errorf("Fill of %+v is %d", o, err)
		}
		if m, err := sent.Make(o.id, o.f, o.c, o.at); m != (api.Message{}) || err != api.ErrRange {
			t.Errorf("Make of %+v is %+v, %d, not ErrRange", o, m, err)
		}
		// What is too deep is told ahead of it, what the template tells behind it.
		if m, err := sent.Make(o.id, o.f, o.c, o.at, nums(251)...); m != (api.Message{}) || err != api.ErrDeep {
			t.Errorf("Make of %+v is %+v, %d, not ErrDeep", o, m, err)
		}
		o.c.Source = "{{count.a}}"
		if m, err := sent.Make(o.id, o.f, o.c, o.at); m != (api.Message{}) || err != api.ErrRange {
			t.Errorf("Make of %+v is %+v, %d, not ErrRange", o, m, err)
		}
	}
}

func TestMakeTellsWhatTheTemplateTells(t *testing.T) { // 22.1
	long := func(many int) []api.Value { return []api.Value{text(strings.Repeat("&", many))} }
	for _, c := range []struct {
		source  string
		channel api.Channel
		items   []api.Value
		err     api.Errno
	}{
		{"{{count.a}}", 1, nil, api.ErrNone},
		{"{{if count.a}}x{{end}}", 1, nil, api.OK},
		{"{{each items.a}}{{end}}", 1, nil, api.ErrNone},
		{"{{each count}}{{end}}", 1, nil, api.ErrCode},
		{"{{each user}}{{end}}", 1, nil, api.ErrCode},
		{"{{each items}}{{this}}{{end}}", 1, long(256), api.OK},
		{"{{each items}}{{this}}{{end}}", 1, long(257), api.ErrLong},
		{"{{each items}}{{this}}{{end}}", 2, long(409), api.OK},
		{"{{each items}}{{this}}{{end}}", 2, long(410), api.ErrLong},
		{"{{each items}}{{this}}{{end}}", 3, long(160), api.OK},
		{"{{each items}}{{this}}{{end}}", 3, long(161), api.ErrLong},
		{"{{each items}}{{each items}}{{if rank}}{{end}}{{end}}{{end}}", 1, nums(100), api.ErrLong},
		{"{{each items}}{{each items}}{{if rank}}{{end}}{{end}}{{end}}", 1, nums(40), api.OK},
	} {
		of := chained(c.source, 2, c.channel)
		m, err := sent.Make(1, sending(), of, 0, c.items...)
		if err != c.err || err != api.OK && m != (api.Message{}) || err == api.OK && sent.Check(m) != api.OK {
			t.Errorf("Make of %s is %+v, %d, not %d", c.source, m, err, c.err)
		}
	}
}
