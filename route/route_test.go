package route_test

import (
	"fmt"
	"math"
	"slices"
	"strings"
	"testing"

	"bellman/api"
	"bellman/pref"
	"bellman/quiet"
	"bellman/route"
)

const (
	minTime = int64(-62135596800)
	maxTime = int64(253402300799)
	noon    = int64(1774785600) // 2026-3-29, a Sunday, 12:00; in Berlin 14:00
)

// chained is a right category of those channels.
func chained(channels ...api.Channel) api.Category {
	c := api.Category{Name: "news", Source: "{{user}}: {{count}}"}
	for i, channel := range channels {
		c.Chain = append(c.Chain, api.Level{Channel: channel, Wait: int64(300 * i), Tries: 1 + i, Pause: 10})
	}
	return c
}

// critical is c, and critical.
func critical(c api.Category) api.Category {
	c.Critical = true
	return c
}

// chains are categories of all chains that there are, by their channels.
func chains() []api.Category {
	all := [][]api.Channel{nil}
	for at := 0; len(all[at]) < 4; at++ {
		for c := api.Channel(1); c < 4; c++ {
			all = append(all, append(slices.Clone(all[at]), c))
		}
	}
	var l []api.Category
	for _, channels := range all[1:] {
		l = append(l, chained(channels...))
	}
	return l
}

// outs are those that the bits tell: of any category, and of that of chained, by each channel, or by any.
func outs(bits int) []api.Out {
	var l []api.Out
	for i, o := range []api.Out{{}, {Channel: 1}, {Channel: 2}, {Channel: 3}, {Category: "news"}, {Category: "news", Channel: 1}, {Category: "news", Channel: 2}, {Category: "news", Channel: 3}} {
		if bits>>i&1 == 1 {
			l = append(l, o)
		}
	}
	return l
}

// user is a right one of those quiet hours and outs.
func user(q api.Quiet, l ...api.Out) api.User {
	return api.User{Name: "ann", Version: 3, Quiet: q, Outs: l}
}

// berlin is the zone.
func berlin() api.Zone {
	return api.Zone{Base: 60, Save: 60, From: api.Switch{Month: 3, Nth: 5, Minute: 120}, To: api.Switch{Month: 10, Nth: 5, Minute: 180}}
}

// nights are quiet hours from 22:00 to 7:00, each day, by the clocks of the zone.
func nights(z api.Zone) api.Quiet {
	l := []api.Range{{From: 0, To: 420}}
	for day := range 6 {
		l = append(l, api.Range{From: day*1440 + 1320, To: day*1440 + 1860})
	}
	return api.Quiet{Zone: z, Week: append(l, api.Range{From: 9960, To: 10080})}
}

// always are quiet hours without an end.
func always() api.Quiet {
	return api.Quiet{Week: []api.Range{{From: 0, To: 10080}}}
}

// quiets are right quiet hours.
func quiets() []api.Quiet {
	return []api.Quiet{
		{},
		nights(api.Zone{}),
		nights(berlin()),
		always(),
		{Zone: berlin(), Week: []api.Range{{From: 0, To: 10080}}},
		{Zone: api.Zone{Base: -900}, Week: []api.Range{{From: 0, To: 10080}}},
		{Zone: api.Zone{Base: 900}, Week: []api.Range{{From: 0, To: 10080}}},
		{Zone: api.Zone{Base: 900}, Week: []api.Range{{From: 5, To: 10080}}},
		{Zone: api.Zone{Base: -345}, Week: []api.Range{{From: 0, To: 1}, {From: 10079, To: 10080}}},
		{Week: []api.Range{{From: 5760, To: 5770}, {From: 7199, To: 7200}}},
	}
}

// times are some, those at an edge among them.
func times() []int64 {
	return []int64{
		minTime, minTime + 1, minTime + 54000, -1, 0, 1, 59, 60, 599, 600, 601, 1774745999, 1774746000,
		noon, noon + 35999, noon + 36000, noon + 36001, 1792889999, 1792890000,
		maxTime - 86400, maxTime - 54000, maxTime - 60, maxTime - 1, maxTime,
	}
}

// noTimes are numbers that are no times.
func noTimes() []int64 {
	return []int64{minTime - 1, maxTime + 1, minTime - 86400, maxTime + 86400, math.MinInt64, math.MaxInt64}
}

// wrongUsers are users that are not right.
func wrongUsers() []api.User {
	return []api.User{
		{},
		{Name: "Ann"},
		{Name: "ann", Version: -1},
		user(api.Quiet{Zone: api.Zone{Base: 901}}),
		user(api.Quiet{Week: []api.Range{{From: 5, To: 5}}}),
		user(api.Quiet{}, api.Out{Channel: 4}),
		user(api.Quiet{}, api.Out{Channel: 2}, api.Out{Channel: 1}),
		user(api.Quiet{}, make([]api.Out, 33)...),
	}
}

// wrongCategories are categories that are not right.
func wrongCategories() []api.Category {
	with := func(change func(c *api.Category)) api.Category {
		c := chained(1, 2)
		change(&c)
		return c
	}
	return []api.Category{
		{},
		chained(),
		chained(1, 2, 3, 1, 2),
		chained(1, 4),
		chained(0),
		with(func(c *api.Category) { c.Name = "News" }),
		with(func(c *api.Category) { c.Window = -1 }),
		with(func(c *api.Category) { c.Bound = 1 }),
		with(func(c *api.Category) { c.Chain[1].Tries = 0 }),
		with(func(c *api.Category) { c.Source = "{{other}}" }),
		with(func(c *api.Category) { c.Source, c.Critical = "{{this}}", true }),
	}
}

// told is something as a text; nil and empty lists are told alike.
func told(of ...any) string {
	return fmt.Sprintf("%+v", of)
}

// wanted are the places of the levels whose channel is off by none of the outs.
func wanted(u api.User, c api.Category) []int {
	var l []int
	for at, level := range c.Chain {
		off := false
		for _, o := range u.Outs {
			off = off || (o.Category == c.Name || o.Category == "") && (o.Channel == level.Channel || o.Channel == 0)
		}
		if !off {
			l = append(l, at)
		}
	}
	return l
}

func TestExampleOfTheChapter(t *testing.T) { // 19.1, 19.2
	u, c := user(api.Quiet{}, api.Out{Channel: api.ChannelPush}), chained(api.ChannelPush, api.ChannelEmail)
	if l, err := route.Levels(u, c); !slices.Equal(l, []int{1}) || err != api.OK {
		t.Errorf("Levels is %v, %d", l, err)
	}
	want := api.Route{Kind: api.RouteSend, Level: 1, At: noon}
	if r, err := route.Decide(u, c, 0, noon); r != want || err != api.OK {
		t.Errorf("Decide is %v, %d", r, err)
	}
}

func TestLevelsOfAllChainsAndOuts(t *testing.T) { // 19.1
	all := chains()
	if len(all) != 120 {
		t.Fatalf("there are %d chains", len(all))
	}
	for bits := range 1 << 8 {
		u := user(api.Quiet{}, outs(bits)...)
		for _, c := range all {
			want := wanted(u, c)
			if l, err := route.Levels(u, c); !slices.Equal(l, want) || err != api.OK {
				t.Fatalf("Levels of %v with %v is %v, %d, not %v", c.Chain, u.Outs, l, err, want)
			}
		}
	}
}

func TestLevelsHangOnTheCategorysName(t *testing.T) { // 19.1
	for name, want := range map[string][]int{"news": {0}, "new": {0, 1, 2}, "newss": {0, 1, 2}, "bills": {1, 2}} {
		c := chained(1, 2, 3)
		c.Name = name
		u := user(api.Quiet{}, api.Out{Category: "bills", Channel: 1}, api.Out{Category: "news", Channel: 2}, api.Out{Category: "news", Channel: 3})
		if l, err := route.Levels(u, c); !slices.Equal(l, want) || err != api.OK {
			t.Errorf("Levels of %s is %v, %d, not %v", name, l, err, want)
		}
	}
}

func TestLevelsHangOnNothingElse(t *testing.T) { // 19.1
	for _, q := range quiets() {
		u := user(q, api.Out{Channel: 2})
		for _, c := range []api.Category{chained(1, 2, 3, 2), critical(chained(1, 2, 3, 2))} {
			if l, err := route.Levels(u, c); !slices.Equal(l, []int{0, 2}) || err != api.OK {
				t.Errorf("Levels with %v is %v, %d", q, l, err)
			}
		}
	}
}

func TestLateTellsTheNextFreeTime(t *testing.T) { // 19.1
	summer, night := noon-6*3600, noon+10*3600
	for _, c := range []struct {
		q    api.Quiet
		t    int64
		want int64
		err  api.Errno
	}{
		{api.Quiet{}, noon, noon, api.OK},
		{nights(api.Zone{}), noon, noon, api.OK},
		{nights(api.Zone{}), night - 1, night - 1, api.OK},
		{nights(api.Zone{}), night, night + 9*3600, api.OK},
		{nights(api.Zone{}), night + 9*3600 - 1, night + 9*3600, api.OK},
		{nights(api.Zone{}), night + 9*3600, night + 9*3600, api.OK},
		{nights(berlin()), night - 2*3600, night + 7*3600, api.OK},
		{nights(berlin()), summer - 5*3600, summer - 3600, api.OK},
		{nights(api.Zone{}), maxTime, 0, api.ErrNone},
		{nights(api.Zone{}), maxTime - 7199, 0, api.ErrNone},
		{nights(api.Zone{}), maxTime - 7200, maxTime - 7200, api.OK},
		{nights(api.Zone{}), minTime, minTime + 7*3600, api.OK},
		{always(), noon, 0, api.ErrNone},
		{always(), minTime, 0, api.ErrNone},
	} {
		u := user(c.q)
		if at, err := route.Late(u, chained(1), c.t); at != c.want || err != c.err {
			t.Errorf("Late with %v at %d is %d, %d, not %d, %d", c.q, c.t, at, err, c.want, c.err)
		}
		if at, err := route.Late(u, critical(chained(1)), c.t); at != c.t || err != api.OK {
			t.Errorf("Late of what is critical, with %v at %d, is %d, %d", c.q, c.t, at, err)
		}
	}
}

func TestLateIsFreesAnswer(t *testing.T) { // 19.1
	for _, q := range quiets() {
		// That nothing is wanted changes nothing.
		for _, u := range []api.User{user(q), user(q, api.Out{})} {
			for _, at := range times() {
				want, no := quiet.Free(q, at)
				if got, err := route.Late(u, chained(1, 2), at); got != want || err != no {
					t.Errorf("Late with %v at %d is %d, %d, not %d, %d", q, at, got, err, want, no)
				}
				if got, err := route.Late(u, critical(chained(1, 2)), at); got != at || err != api.OK {
					t.Errorf("Late of what is critical, with %v at %d, is %d, %d", q, at, got, err)
				}
			}
		}
	}
}

func TestLateRefusesWhatIsNoTime(t *testing.T) { // 19.1
	for _, q := range quiets() {
		for _, c := range []api.Category{chained(1), critical(chained(1))} {
			for _, at := range noTimes() {
				if got, err := route.Late(user(q), c, at); got != 0 || err != api.ErrRange {
					t.Errorf("Late with %v at %d is %d, %d, not ErrRange", q, at, got, err)
				}
			}
		}
	}
}

// refused tells of all three that the user, or the category, is not right.
func refused(t *testing.T, u api.User, c api.Category) {
	t.Helper()
	if l, err := route.Levels(u, c); len(l) != 0 || err != api.ErrForm {
		t.Errorf("Levels of %v, %v is %v, %d, not ErrForm", u, c, l, err)
	}
	for _, at := range append(noTimes(), 0, noon, minTime, maxTime) {
		if got, err := route.Late(u, c, at); got != 0 || err != api.ErrForm {
			t.Errorf("Late of %v, %v is %d, %d, not ErrForm", u, c, got, err)
		}
		for _, from := range []int{math.MinInt, -1, 0, 1, 2, 3, 4, 5, math.MaxInt} {
			if r, err := route.Decide(u, c, from, at); r != (api.Route{}) || err != api.ErrForm {
				t.Errorf("Decide of %v, %v is %v, %d, not ErrForm", u, c, r, err)
			}
		}
	}
}

func TestWhatIsNotRightIsRefusedFirst(t *testing.T) { // 19.1, 19.2
	for _, u := range wrongUsers() {
		refused(t, u, chained(1, 2))
		refused(t, u, critical(chained(1, 2)))
		refused(t, u, api.Category{})
	}
	for _, c := range wrongCategories() {
		for _, q := range quiets() {
			refused(t, user(q), c)
		}
		refused(t, user(api.Quiet{}, api.Out{}), c)
	}
}

// holder is a user of new memory, with room behind the lists.
func holder() api.User {
	u := user(nights(berlin()), outs(1<<2|1<<5)...)
	u.Name = strings.Clone(u.Name)
	u.Quiet.Week = append(u.Quiet.Week, api.Range{From: 77, To: 78})[:8]
	u.Outs = append(u.Outs, api.Out{Category: "spare"})[:2]
	return u
}

// roomy is a category of new memory, with room behind the chain.
func roomy() api.Category {
	c := chained(1, 2, 3, 3)
	c.Chain = append(c.Chain, api.Level{Pause: 77})[:4]
	return c
}

func TestAnswersAreNewMemory(t *testing.T) { // 19.3
	u, c := holder(), roomy()
	for range 3 {
		one, _ := route.Levels(u, c)
		two, _ := route.Levels(u, c)
		all := one[:cap(one)]
		for i := range all {
			all[i] = 77
		}
		if !slices.Equal(two, []int{2, 3}) {
			t.Errorf("Levels is %v behind a change of another answer", two)
		}
		route.Late(u, c, noon+11*3600)
		route.Decide(u, c, 0, noon+11*3600)
		if told(u, c) != told(holder(), roomy()) {
			t.Errorf("what was handed in is %v, %v now", u, c)
		}
		if told(u.Quiet.Week[:9], u.Outs[:3], c.Chain[:5]) != told(holder().Quiet.Week[:9], holder().Outs[:3], roomy().Chain[:5]) {
			t.Error("what is behind a list was changed")
		}
	}
}

// isAllowed tells whether c may be told to u by that channel at the time.
func isAllowed(u api.User, c api.Category, by api.Channel, t int64) bool {
	is, _ := pref.Wants(u, c.Name, by)
	hush, err := quiet.In(u.Quiet, t)
	return is && err == api.OK && (c.Critical || !hush)
}
