package chain_test

import (
	"fmt"
	"math"
	"slices"
	"strings"
	"testing"

	"bellman/api"
	"bellman/chain"
	"bellman/tree"
)

const maxSpan = int64(2592000)

var (
	noNames = []string{"", "A", "News", "1a", "_a", "a.b", "a b", "a-b", " a", "a ", "\u00e9", "a\x00", "a\n", strings.Repeat("a", 33), strings.Repeat("a", 100000)}
	names   = []string{"a", "z", "a0", "a_", "ab", "news", strings.Repeat("z", 32)}
	asked   = []string{"user", "count", "items", "rank", "category"}
)

// category is a right one of that name.
func category(name string) api.Category {
	return api.Category{
		Name:   name,
		Window: 60,
		Bound:  3,
		Chain:  []api.Level{{Channel: 1, Wait: 300, Tries: 2, Pause: 5}, {Channel: 2, Wait: 0, Tries: 1, Pause: 9}, {Channel: 3, Wait: 7, Tries: 5, Pause: 1000}},
		Source: "{{user}}: {{count}}{{each items}}{{this.text}}{{end}}",
	}
}

// with is a right category, of which one thing is another one.
func with(change func(c *api.Category)) api.Category {
	c := category("news")
	change(&c)
	return c
}

// withLevel is a right category with that level at that place of its chain.
func withLevel(at int, l api.Level) api.Category {
	return with(func(c *api.Category) { c.Chain[at] = l })
}

// withSource is a right category of that template.
func withSource(s string) api.Category {
	return with(func(c *api.Category) { c.Source = s })
}

// sources are templates that ask for nothing else than they may.
func sources() []string {
	all := []string{
		"", "x", "a text {of} any } kind", strings.Repeat("x", 1024),
		"{{user}}{{count}}{{items}}{{rank}}{{category}}",
		"{{user.name}}{{items.text}}{{rank.count.a.b}}",
		"{{each items}}{{this}}{{this.a}}{{user}}{{end}}",
		"{{each items}}{{each this.parts}}{{this}}{{if this.a}}{{this}}{{else}}{{this.b}}{{end}}{{end}}{{end}}",
		"{{if rank}}again{{else}}{{category}}{{end}}",
		strings.Repeat("{{if user}}", 7) + "x" + strings.Repeat("{{end}}", 7),
		strings.Repeat("{{rank}}", 128),
	}
	for _, name := range asked {
		all = append(all, "{{"+name+"}}", "{{if "+name+"}}{{end}}", "{{each "+name+"}}{{end}}", "{{each items}}{{"+name+".this}}{{end}}")
	}
	return all
}

// noSources are what is no template, or asks for something else, or for this where it is nothing.
func noSources() []string {
	all := []string{
		"{{", "{{user", "{{}}", "{{User}}", "{{end}}", "{{else}}", "{{if user}}", "{{each items}}{{this}}", "{{if user}}{{else}}{{else}}{{end}}",
		"{{a.b.c.d.e}}", "{{user..name}}", "{{user.a.b.c.d}}",
		strings.Repeat("x", 1025), strings.Repeat("{{if user}}", 9) + strings.Repeat("{{end}}", 9),
		"{{name}}", "{{users}}", "{{use}}", "{{counts}}", "{{item}}", "{{ranks}}", "{{categories}}", "{{at}}", "{{id}}", "{{text}}",
		"{{user}}{{count}}{{items}}{{rank}}{{category}}{{channel}}",
		"{{each items}}{{text}}{{end}}", "{{each items}}{{this}}{{other}}{{end}}", "{{each others}}{{this}}{{end}}",
		"{{if user}}{{else}}{{other}}{{end}}", "{{if other}}{{end}}", "{{name.user}}",
		"{{this}}", "{{this.user}}", "{{if this}}{{end}}", "{{each this}}{{end}}", "{{each items}}{{this}}{{end}}{{this}}",
		"{{if user}}{{this.a}}{{end}}", "{{if user}}{{else}}{{this}}{{end}}",
	}
	return all
}

// rights are right categories, each edge among them.
func rights() []api.Category {
	l := api.Level{Channel: 2, Wait: 10, Tries: 3, Pause: 20}
	all := []api.Category{
		category("news"),
		with(func(c *api.Category) { c.Critical = true }),
		with(func(c *api.Category) { c.Window, c.Bound = 0, 0 }),
		with(func(c *api.Category) { c.Window, c.Bound, c.Critical = 0, 0, true }),
		with(func(c *api.Category) { c.Window, c.Bound = 1, 1 }),
		with(func(c *api.Category) { c.Window, c.Bound = maxSpan, 16 }),
		with(func(c *api.Category) { c.Window, c.Bound = maxSpan-1, 15 }),
		with(func(c *api.Category) { c.Chain = []api.Level{l} }),
		with(func(c *api.Category) { c.Chain = []api.Level{l, l} }),
		with(func(c *api.Category) { c.Chain = []api.Level{l, l, l, l} }),
	}
	for at := range 3 {
		for _, change := range []func(l *api.Level){
			func(l *api.Level) { l.Channel = 1 },
			func(l *api.Level) { l.Channel = 3 },
			func(l *api.Level) { l.Wait = 0 },
			func(l *api.Level) { l.Wait = 1 },
			func(l *api.Level) { l.Wait = maxSpan },
			func(l *api.Level) { l.Tries = 1 },
			func(l *api.Level) { l.Tries = 5 },
			func(l *api.Level) { l.Pause = 1 },
			func(l *api.Level) { l.Pause = maxSpan },
		} {
			one := l
			change(&one)
			all = append(all, withLevel(at, one))
		}
	}
	for _, name := range names {
		all = append(all, category(name))
	}
	for _, s := range sources() {
		all = append(all, withSource(s))
	}
	longest := api.Level{Channel: 1, Wait: maxSpan, Tries: 5, Pause: maxSpan}
	return append(all, with(func(c *api.Category) { c.Chain = []api.Level{longest, longest, longest, longest} }))
}

// noLevels are levels that are not right, each by one thing.
func noLevels() []api.Level {
	l := api.Level{Channel: 2, Wait: 10, Tries: 3, Pause: 20}
	all := []api.Level{{}}
	put := func(change func(l *api.Level)) {
		one := l
		change(&one)
		all = append(all, one)
	}
	for _, c := range []api.Channel{0, 4, 5, 128, 255} {
		put(func(l *api.Level) { l.Channel = c })
	}
	for _, n := range []int64{-1, -maxSpan, math.MinInt64, maxSpan + 1, math.MaxInt64} {
		put(func(l *api.Level) { l.Wait = n })
		put(func(l *api.Level) { l.Pause = n })
	}
	put(func(l *api.Level) { l.Pause = 0 })
	for _, n := range []int{0, -1, math.MinInt, 6, 7, math.MaxInt} {
		put(func(l *api.Level) { l.Tries = n })
	}
	return all
}

// wrongs are categories that are not right, each by one thing.
func wrongs() map[string]api.Category {
	l := api.Level{Channel: 2, Wait: 10, Tries: 3, Pause: 20}
	all := map[string]api.Category{
		"nothing":           {},
		"no chain":          with(func(c *api.Category) { c.Chain = nil }),
		"an empty chain":    with(func(c *api.Category) { c.Chain = []api.Level{} }),
		"five levels":       with(func(c *api.Category) { c.Chain = []api.Level{l, l, l, l, l} }),
		"many levels":       with(func(c *api.Category) { c.Chain = slices.Repeat([]api.Level{l}, 1000) }),
		"bound at once":     with(func(c *api.Category) { c.Window, c.Bound = 0, 1 }),
		"bound below":       with(func(c *api.Category) { c.Window, c.Bound = 0, -1 }),
		"bound of most":     with(func(c *api.Category) { c.Window, c.Bound = 0, 16 }),
		"no bound":          with(func(c *api.Category) { c.Window, c.Bound = 1, 0 }),
		"no bound of most":  with(func(c *api.Category) { c.Window, c.Bound = maxSpan, 0 }),
		"a bound below":     with(func(c *api.Category) { c.Window, c.Bound = 60, -1 }),
		"a bound far below": with(func(c *api.Category) { c.Window, c.Bound = 60, math.MinInt }),
		"a bound above":     with(func(c *api.Category) { c.Window, c.Bound = 60, 17 }),
		"a bound far above": with(func(c *api.Category) { c.Window, c.Bound = 60, math.MaxInt }),
	}
	for _, w := range []int64{-1, -60, math.MinInt64, maxSpan + 1, math.MaxInt64} {
		for _, b := range []int{0, 1, 16} {
			all[fmt.Sprint("window ", w, b)] = with(func(c *api.Category) { c.Window, c.Bound = w, b })
		}
	}
	for i, name := range noNames {
		all[fmt.Sprint("no name ", i)] = category(name)
	}
	for i, l := range noLevels() {
		for at := range 3 {
			all[fmt.Sprint("no level ", i, " at ", at)] = withLevel(at, l)
		}
		all[fmt.Sprint("no level alone ", i)] = with(func(c *api.Category) { c.Chain = []api.Level{l} })
	}
	for i, s := range noSources() {
		all[fmt.Sprint("no source ", i)] = withSource(s)
	}
	return all
}

// told is something as a text; nil and empty lists are told alike.
func told(of ...any) string {
	return fmt.Sprintf("%+v", of)
}

func TestCheckTellsWhatIsRight(t *testing.T) { // 18.1
	for _, c := range rights() {
		if err := chain.Check(c); err != api.OK {
			t.Errorf("Check of %+v is %d", c, err)
		}
	}
	for name, c := range wrongs() {
		if err := chain.Check(c); err != api.ErrForm {
			t.Errorf("%s: Check is %d, not ErrForm", name, err)
		}
	}
}

func TestNoSourcesAreWrongByOneThing(t *testing.T) { // 18.1
	// Some are no templates, some ask for too much: there must be enough of both.
	templates := 0
	for _, s := range noSources() {
		if _, err := tree.Parse(s); err == api.OK {
			templates++
		}
	}
	if templates < 20 || templates > len(noSources())-13 {
		t.Errorf("of %d %d are templates", len(noSources()), templates)
	}
}

func TestCheckTellsOfAllWindowsAndBounds(t *testing.T) { // 18.1
	for _, window := range []int64{-2, -1, 0, 1, 2, 59, maxSpan - 1, maxSpan, maxSpan + 1} {
		for bound := -3; bound <= 20; bound++ {
			right := window == 0 && bound == 0 || window >= 1 && window <= maxSpan && bound >= 1 && bound <= 16
			want := api.ErrForm
			if right {
				want = api.OK
			}
			if err := chain.Check(with(func(c *api.Category) { c.Window, c.Bound = window, bound })); err != want {
				t.Errorf("Check with %d and %d is %d, not %d", window, bound, err, want)
			}
		}
	}
}

func TestExampleOfTheChapter(t *testing.T) { // 18.1
	c := with(func(c *api.Category) {
		c.Chain = []api.Level{{Channel: api.ChannelPush, Wait: 300, Tries: 1, Pause: 1}, {Channel: api.ChannelEmail, Tries: 1, Pause: 1}}
	})
	if n, err := chain.Long(c); n != 300 || err != api.OK {
		t.Errorf("Long is %d, %d, not 300", n, err)
	}
}

// taken is how long the levels take, one try behind the other.
func taken(l []api.Level) int64 {
	seconds := int64(0)
	for _, one := range l {
		for try := range one.Tries {
			if try > 0 {
				seconds += one.Pause
			}
		}
		seconds += one.Wait
	}
	return seconds
}

func TestLongTellsHowLongItTakes(t *testing.T) { // 18.1
	l := api.Level{Channel: 2, Wait: 10, Tries: 3, Pause: 20}
	for _, c := range []struct {
		chain []api.Level
		want  int64
	}{
		{[]api.Level{l}, 50},
		{[]api.Level{l, l}, 100},
		{[]api.Level{l, l, l, l}, 200},
		{[]api.Level{{Channel: 1, Wait: 0, Tries: 1, Pause: maxSpan}}, 0},
		{[]api.Level{{Channel: 1, Wait: 0, Tries: 2, Pause: maxSpan}, {Channel: 1, Wait: 7, Tries: 1, Pause: 1}}, maxSpan + 7},
		{slices.Repeat([]api.Level{{Channel: 3, Wait: maxSpan, Tries: 5, Pause: maxSpan}}, 4), 51840000},
	} {
		if n, err := chain.Long(with(func(o *api.Category) { o.Chain = c.chain })); n != c.want || err != api.OK {
			t.Errorf("Long of %v is %d, %d, not %d", c.chain, n, err, c.want)
		}
	}
	for _, c := range rights() {
		if n, err := chain.Long(c); n != taken(c.Chain) || err != api.OK {
			t.Errorf("Long of %v is %d, %d, not %d", c.Chain, n, err, taken(c.Chain))
		}
	}
}

func TestLevelTellsEachOne(t *testing.T) { // 18.1
	for _, c := range rights() {
		for i, l := range c.Chain {
			if got, err := chain.Level(c, i); got != l || err != api.OK {
				t.Errorf("Level %d of %v is %v, %d", i, c.Chain, got, err)
			}
		}
		for _, i := range []int{-1, math.MinInt, len(c.Chain), len(c.Chain) + 1, 5, 100, math.MaxInt} {
			if got, err := chain.Level(c, i); got != (api.Level{}) || err != api.ErrNone {
				t.Errorf("Level %d of %v is %v, %d, not ErrNone", i, c.Chain, got, err)
			}
		}
	}
}

func TestAllCheckFirst(t *testing.T) { // 18.1
	for name, c := range wrongs() {
		if n, err := chain.Long(c); n != 0 || err != api.ErrForm {
			t.Errorf("%s: Long is %d, %d, not ErrForm", name, n, err)
		}
		for _, i := range []int{-1, 0, 1, 2, 3, 4, math.MaxInt} {
			if l, err := chain.Level(c, i); l != (api.Level{}) || err != api.ErrForm {
				t.Errorf("%s: Level %d is %v, %d, not ErrForm", name, i, l, err)
			}
		}
	}
}
