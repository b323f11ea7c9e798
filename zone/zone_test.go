package zone_test

import (
	"fmt"
	"math"
	"math/rand"
	"slices"
	"sort"
	"testing"
	"time"

	"bellman/api"
	"bellman/zone"
)

// noTimes are numbers that are no times.
var noTimes = []int64{api.MinTime - 1, api.MaxTime + 1, api.MinTime - 86400, api.MaxTime + 86400, math.MinInt64, math.MaxInt64}

// names are the zones that the document names.
func names() map[string]api.Zone {
	eu := func(month, minute int) api.Switch { return api.Switch{Month: month, Nth: 5, Minute: minute} }
	first := func(month, minute int) api.Switch { return api.Switch{Month: month, Nth: 1, Minute: minute} }
	us := api.Switch{Month: 3, Nth: 2, Minute: 120}
	return map[string]api.Zone{
		"UTC":                 {},
		"Europe/London":       {Base: 0, Save: 60, From: eu(3, 60), To: eu(10, 120)},
		"Europe/Berlin":       {Base: 60, Save: 60, From: eu(3, 120), To: eu(10, 180)},
		"America/New_York":    {Base: -300, Save: 60, From: us, To: first(11, 120)},
		"America/Los_Angeles": {Base: -480, Save: 60, From: us, To: first(11, 120)},
		"Asia/Kolkata":        {Base: 330},
		"Asia/Tokyo":          {Base: 540},
		"Australia/Sydney":    {Base: 600, Save: 60, From: first(10, 120), To: first(4, 180)},
	}
}

// edges are right zones that go as far as a zone may.
func edges() []api.Zone {
	summer := func(base, save int, from, to api.Switch) api.Zone {
		return api.Zone{Base: base, Save: save, From: from, To: to}
	}
	newYear := api.Switch{Month: 1, Nth: 1, Weekday: 1} // a Monday: January 1st of the year 1
	yearEnd := api.Switch{Month: 12, Nth: 5, Weekday: 5, Minute: 1439}
	noon := api.Switch{Month: 1, Nth: 1, Weekday: 1, Minute: 900}
	all := []api.Zone{
		{Base: 900}, {Base: -900}, {Base: 1}, {Base: -1},
		summer(900, 60, newYear, api.Switch{Month: 3, Nth: 1, Weekday: 3}),
		summer(900, 120, noon, api.Switch{Month: 11, Nth: 5, Weekday: 6}),
		summer(899, 1, noon, api.Switch{Month: 6, Nth: 3, Weekday: 2}),
		summer(780, 120, api.Switch{Month: 8, Nth: 2, Weekday: 1}, noon),
		summer(0, 30, newYear, api.Switch{Month: 7, Nth: 1, Weekday: 1}),
		summer(0, 30, api.Switch{Month: 7, Nth: 1, Weekday: 1}, newYear),
		summer(0, 120, yearEnd, api.Switch{Month: 2, Nth: 5, Weekday: 0}),
		summer(0, 120, api.Switch{Month: 10, Nth: 5, Weekday: 6, Minute: 1439}, yearEnd),
		summer(-900, 120, yearEnd, api.Switch{Month: 10, Nth: 1, Weekday: 0}),
		summer(-900, 120, api.Switch{Month: 2, Nth: 4, Weekday: 2}, yearEnd),
		summer(-900, 1, api.Switch{Month: 10, Nth: 5, Weekday: 3, Minute: 1439}, api.Switch{Month: 12, Nth: 5, Weekday: 0, Minute: 1439}),
		summer(900, 120, api.Switch{Month: 1, Nth: 1, Weekday: 6}, api.Switch{Month: 11, Nth: 1, Weekday: 6}),
	}
	r := rand.New(rand.NewSource(6))
	for range 12 {
		to := r.Intn(12)
		in := func(month int) api.Switch {
			return api.Switch{Month: 1 + month%12, Nth: 1 + r.Intn(5), Weekday: r.Intn(7), Minute: r.Intn(1440)}
		}
		all = append(all, summer(r.Intn(1801)-900, 1+r.Intn(120), in(to+2+r.Intn(9)), in(to)))
	}
	return all
}

// zones are the named ones and the edges.
func zones() []api.Zone {
	all := edges()
	for _, z := range names() {
		all = append(all, z)
	}
	return all
}

// turn is a switch of one year: from the time on the clocks are so many minutes ahead.
type turn struct {
	at    int64
	ahead int
}

// clocks are a zone with all its switches, reckoned year by year, with Go's calendar.
type clocks struct {
	zone  api.Zone
	turns []turn
}

func clocksOf(z api.Zone) clocks {
	c := clocks{zone: z}
	for year := 1; year <= 9999 && z.Save > 0; year++ {
		c.turns = append(c.turns,
			turn{switchAt(z.From, year, z.Base), z.Base + z.Save},
			turn{switchAt(z.To, year, z.Base+z.Save), z.Base})
	}
	c.turns = slices.DeleteFunc(c.turns, func(t turn) bool { return t.at < api.MinTime || t.at > api.MaxTime })
	sort.Slice(c.turns, func(i, j int) bool { return c.turns[i].at < c.turns[j].at })
	return c
}

// switchAt is when the year's switch is, a time or none.
func switchAt(s api.Switch, year, ahead int) int64 {
	d := time.Date(year, time.Month(s.Month), 1, 0, 0, 0, 0, time.UTC)
	for int(d.Weekday()) != s.Weekday {
		d = d.AddDate(0, 0, 1)
	}
	for n := 1; n < s.Nth; n++ {
		if later := d.AddDate(0, 0, 7); int(later.Month()) == s.Month {
			d = later
		}
	}
	return d.Unix() + int64(s.Minute)*60 - int64(ahead)*60
}

// upTo is how many of the switches are not behind t.
func (c clocks) upTo(t int64) int {
	return sort.Search(len(c.turns), func(i int) bool { return c.turns[i].at > t })
}

func (c clocks) offset(t int64) int {
	if n := c.upTo(t); n > 0 {
		return c.turns[n-1].ahead
	}
	return c.zone.Base
}

// times are the times whose local moment is that of the time local: all offsets there may be are tried.
func (c clocks) times(local int64) []int64 {
	var all []int64
	for minutes := 1020; minutes >= -1020; minutes-- {
		t := local - int64(minutes)*60
		if t >= api.MinTime && t <= api.MaxTime && c.offset(t) == minutes {
			all = append(all, t)
		}
	}
	return all
}

// some are times about the edges of the clocks: the first and the last times, those about switches, and any others.
func (c clocks) some() []int64 {
	r := rand.New(rand.NewSource(7))
	all := []int64{0}
	for _, minutes := range []int64{0, 1, 59, 60, 120, 300, 780, 900, 960, 1020, 1021, 1440, 2000} {
		for more := int64(-1); more <= 1; more++ {
			all = append(all, api.MinTime+minutes*60+more, api.MaxTime-minutes*60+more)
		}
	}
	for i := range c.turns {
		if i > 3 && i < len(c.turns)-4 && r.Intn(700) > 0 {
			continue
		}
		at, save := c.turns[i].at, int64(c.zone.Save)*60
		all = append(all, at-save-1, at-save, at-60, at-1, at, at+1, at+60, at+save-1, at+save, at+save+1)
	}
	for range 100 {
		all = append(all, api.MinTime+r.Int63n(api.MaxTime-api.MinTime+1))
	}
	return slices.DeleteFunc(all, func(t int64) bool { return t < api.MinTime || t > api.MaxTime })
}

// moment is the time's, by Go's calendar.
func moment(t int64) api.Moment {
	m := time.Unix(t, 0).UTC()
	return api.Moment{Year: m.Year(), Month: int(m.Month()), Day: m.Day(), Hour: m.Hour(), Minute: m.Minute(), Second: m.Second(), Weekday: int(m.Weekday())}
}

// wrong are zones that are not right.
func wrong() map[string]api.Zone {
	berlin := names()["Europe/Berlin"]
	with := func(change func(z *api.Zone)) api.Zone {
		z := berlin
		change(&z)
		return z
	}
	all := map[string]api.Zone{
		"far ahead":              {Base: 901},
		"far behind":             {Base: -901},
		"ahead without an end":   {Base: math.MaxInt},
		"behind without an end":  {Base: math.MinInt},
		"ahead, with a summer":   with(func(z *api.Zone) { z.Base = 901 }),
		"behind, with a summer":  with(func(z *api.Zone) { z.Base = -901 }),
		"saves too much":         with(func(z *api.Zone) { z.Save = 121 }),
		"saves below 0":          with(func(z *api.Zone) { z.Save = -1 }),
		"saves without an end":   with(func(z *api.Zone) { z.Save = math.MaxInt }),
		"saves far below 0":      with(func(z *api.Zone) { z.Save = math.MinInt }),
		"below 0, no switches":   {Save: -60},
		"no summer but switches": with(func(z *api.Zone) { z.Save = 0 }),
		"a summer, no switches":  {Base: 60, Save: 60},
		"a summer, no end":       with(func(z *api.Zone) { z.To = api.Switch{} }),
		"a summer, no beginning": with(func(z *api.Zone) { z.From = api.Switch{} }),
		"no summer, From month":  {From: api.Switch{Month: 3}},
		"no summer, From nth":    {From: api.Switch{Nth: 1}},
		"no summer, From day":    {From: api.Switch{Weekday: 1}},
		"no summer, From minute": {From: api.Switch{Minute: 1}},
		"no summer, To month":    {To: api.Switch{Month: 3}},
		"no summer, To nth":      {To: api.Switch{Nth: 1}},
		"no summer, To day":      {To: api.Switch{Weekday: 1}},
		"no summer, To minute":   {To: api.Switch{Minute: 1}},
		"one month apart":        with(func(z *api.Zone) { z.From.Month, z.To.Month = 10, 9 }),
		"eleven months apart":    with(func(z *api.Zone) { z.From.Month, z.To.Month = 9, 10 }),
		"the same month":         with(func(z *api.Zone) { z.From.Month, z.To.Month = 5, 5 }),
		"a year's end between":   with(func(z *api.Zone) { z.From.Month, z.To.Month = 1, 12 }),
		"and the other way":      with(func(z *api.Zone) { z.From.Month, z.To.Month = 12, 1 }),
	}
	for _, n := range []int{0, 13, -1, 15, -2, math.MaxInt, math.MinInt} {
		all[fmt.Sprintf("month of From %d", n)] = with(func(z *api.Zone) { z.From.Month = n })
		all[fmt.Sprintf("month of To %d", n)] = with(func(z *api.Zone) { z.To.Month = n })
	}
	for _, n := range []int{0, 6, -1, math.MaxInt, math.MinInt} {
		all[fmt.Sprintf("nth of From %d", n)] = with(func(z *api.Zone) { z.From.Nth = n })
		all[fmt.Sprintf("nth of To %d", n)] = with(func(z *api.Zone) { z.To.Nth = n })
	}
	for _, n := range []int{-1, 7, math.MaxInt, math.MinInt} {
		all[fmt.Sprintf("weekday of From %d", n)] = with(func(z *api.Zone) { z.From.Weekday = n })
		all[fmt.Sprintf("weekday of To %d", n)] = with(func(z *api.Zone) { z.To.Weekday = n })
	}
	for _, n := range []int{-1, 1440, math.MaxInt, math.MinInt} {
		all[fmt.Sprintf("minute of From %d", n)] = with(func(z *api.Zone) { z.From.Minute = n })
		all[fmt.Sprintf("minute of To %d", n)] = with(func(z *api.Zone) { z.To.Minute = n })
	}
	return all
}

func TestCheckTellsWhatIsRight(t *testing.T) { // 6.1
	check := func(z api.Zone) {
		t.Helper()
		if err := zone.Check(z); err != api.OK {
			t.Errorf("Check(%v) is %d", z, err)
		}
	}
	for _, z := range zones() {
		check(z)
	}
	for _, base := range []int{-900, -899, 0, 899, 900} {
		check(api.Zone{Base: base})
		for _, save := range []int{1, 60, 119, 120} {
			z := names()["Europe/Berlin"]
			z.Base, z.Save = base, save
			check(z)
		}
	}
	for _, s := range []api.Switch{{Nth: 1}, {Nth: 5}, {Nth: 1, Weekday: 6}, {Nth: 5, Minute: 1439}, {Nth: 3, Weekday: 3, Minute: 720}} {
		from, to := s, s
		from.Month, to.Month = 1, 7
		check(api.Zone{Save: 60, From: from, To: to})
		check(api.Zone{Save: 60, From: to, To: from})
	}
}

func TestCheckTellsHowFarMonthsAreApart(t *testing.T) { // 6.1
	for from := 1; from <= 12; from++ {
		for to := 1; to <= 12; to++ {
			want := api.ErrForm
			for apart := 2; apart <= 10; apart++ {
				if (to-1+apart)%12+1 == from {
					want = api.OK
				}
			}
			z := api.Zone{Save: 60, From: api.Switch{Month: from, Nth: 1}, To: api.Switch{Month: to, Nth: 1}}
			if err := zone.Check(z); err != want {
				t.Errorf("Check of months %d and %d is %d, not %d", from, to, err, want)
			}
		}
	}
}

func TestCheckTellsWhatIsWrong(t *testing.T) { // 6.1
	for name, z := range wrong() {
		if err := zone.Check(z); err != api.ErrForm {
			t.Errorf("%s: Check is %d, not ErrForm", name, err)
		}
	}
}

func TestTheOthersCheckFirst(t *testing.T) { // 6.1
	for name, z := range wrong() {
		for _, at := range append([]int64{0}, noTimes...) {
			if n, err := zone.Offset(z, at); n != 0 || err != api.ErrForm {
				t.Errorf("%s: Offset(%d) is %d, %d, not ErrForm", name, at, n, err)
			}
			if m, err := zone.Local(z, at); m != (api.Moment{}) || err != api.ErrForm {
				t.Errorf("%s: Local(%d) is %v, %d, not ErrForm", name, at, m, err)
			}
			if n, err := zone.Next(z, at); n != 0 || err != api.ErrForm {
				t.Errorf("%s: Next(%d) is %d, %d, not ErrForm", name, at, n, err)
			}
		}
		for _, m := range []api.Moment{{}, moment(0)} {
			if l, err := zone.Times(z, m); len(l) != 0 || err != api.ErrForm {
				t.Errorf("%s: Times(%v) is %d, %d, not ErrForm", name, m, l, err)
			}
		}
	}
}

func TestNamedFindsTheZones(t *testing.T) { // 6.1
	for name, want := range names() {
		if z, err := zone.Named(name); z != want || err != api.OK {
			t.Errorf("Named(%s) is %v, %d, not %v", name, z, err, want)
		}
	}
	for _, name := range []string{"", "utc", "GMT", "Europe", "London", "Europe/Paris", "europe/berlin", "Europe/Berlin ", " Europe/Berlin", "Europe/Berlin\x00", "Europe/Berlinn", "Europe/Berli", "America/New York", "Asia/Calcutta", "\xff"} {
		if z, err := zone.Named(name); z != (api.Zone{}) || err != api.ErrName {
			t.Errorf("Named(%q) is %v, %d, not ErrName", name, z, err)
		}
	}
}

func TestOffsetsOfOneYear(t *testing.T) { // 6.2
	for name, l := range map[string][]struct {
		at            int64
		before, after int
	}{
		"Europe/London":       {{1774746000, 0, 60}, {1792890000, 60, 0}},
		"Europe/Berlin":       {{1774746000, 60, 120}, {1792890000, 120, 60}},
		"America/New_York":    {{1772953200, -300, -240}, {1793512800, -240, -300}},
		"America/Los_Angeles": {{1772964000, -480, -420}, {1793523600, -420, -480}},
		"Australia/Sydney":    {{1775318400, 660, 600}, {1791043200, 600, 660}},
	} {
		z, _ := zone.Named(name)
		for i, c := range l {
			if n, err := zone.Offset(z, c.at-1); n != c.before || err != api.OK {
				t.Errorf("%s: ahead of %d it is %d, %d, not %d", name, c.at, n, err, c.before)
			}
			if n, err := zone.Offset(z, c.at); n != c.after || err != api.OK {
				t.Errorf("%s: at %d it is %d, %d, not %d", name, c.at, n, err, c.after)
			}
			if i > 0 {
				if n, err := zone.Next(z, l[i-1].at); n != c.at || err != api.OK {
					t.Errorf("%s: behind %d the next one is %d, %d, not %d", name, l[i-1].at, n, err, c.at)
				}
			}
		}
	}
	for name, want := range map[string]int{"UTC": 0, "Asia/Kolkata": 330, "Asia/Tokyo": 540} {
		z, _ := zone.Named(name)
		for _, at := range []int64{api.MinTime, 0, 1774746000, 1783000000, api.MaxTime} {
			if n, err := zone.Offset(z, at); n != want || err != api.OK {
				t.Errorf("%s: at %d it is %d, %d, not %d", name, at, n, err, want)
			}
		}
	}
}

func TestOffsetTellsHowFarAhead(t *testing.T) { // 6.2
	for _, z := range zones() {
		c := clocksOf(z)
		for _, at := range c.some() {
			if n, err := zone.Offset(z, at); n != c.offset(at) || err != api.OK {
				t.Fatalf("%v: Offset(%d) is %d, %d, not %d", z, at, n, err, c.offset(at))
			}
		}
	}
}

func TestLocalTellsTheMoment(t *testing.T) { // 6.2
	berlin, _ := zone.Named("Europe/Berlin")
	for at, want := range map[int64]api.Moment{
		1774745999: {Year: 2026, Month: 3, Day: 29, Hour: 1, Minute: 59, Second: 59},
		1774746000: {Year: 2026, Month: 3, Day: 29, Hour: 3},
		1792889999: {Year: 2026, Month: 10, Day: 25, Hour: 2, Minute: 59, Second: 59},
		1792890000: {Year: 2026, Month: 10, Day: 25, Hour: 2},
		1798757999: {Year: 2026, Month: 12, Day: 31, Hour: 23, Minute: 59, Second: 59, Weekday: 4},
		1798758000: {Year: 2027, Month: 1, Day: 1, Weekday: 5},
	} {
		if m, err := zone.Local(berlin, at); m != want || err != api.OK {
			t.Errorf("Local(%d) is %v, %d, not %v", at, m, err, want)
		}
	}
	for _, z := range zones() {
		c := clocksOf(z)
		for _, at := range c.some() {
			local := at + int64(c.offset(at))*60
			want, wantErr := api.Moment{}, api.ErrRange
			if local >= api.MinTime && local <= api.MaxTime {
				want, wantErr = moment(local), api.OK
			}
			if m, err := zone.Local(z, at); m != want || err != wantErr {
				t.Fatalf("%v: Local(%d) is %v, %d, not %v, %d", z, at, m, err, want, wantErr)
			}
		}
	}
}

func TestTimesOfGapsAndRepeats(t *testing.T) { // 6.2
	berlin, _ := zone.Named("Europe/Berlin")
	at := func(month, day, hour, minute, second int) api.Moment {
		return api.Moment{Year: 2026, Month: month, Day: day, Hour: hour, Minute: minute, Second: second}
	}
	for _, c := range []struct {
		m    api.Moment
		want []int64
	}{
		{at(3, 29, 1, 59, 59), []int64{1774745999}},
		{at(3, 29, 2, 0, 0), nil},
		{at(3, 29, 2, 30, 0), nil},
		{at(3, 29, 2, 59, 59), nil},
		{at(3, 29, 3, 0, 0), []int64{1774746000}},
		{at(10, 25, 1, 59, 59), []int64{1792886399}},
		{at(10, 25, 2, 0, 0), []int64{1792886400, 1792890000}},
		{at(10, 25, 2, 30, 0), []int64{1792888200, 1792891800}},
		{at(10, 25, 2, 59, 59), []int64{1792889999, 1792893599}},
		{at(10, 25, 3, 0, 0), []int64{1792893600}},
	} {
		for _, weekday := range []int{0, 3, 6, 7, -1, math.MaxInt, math.MinInt} {
			c.m.Weekday = weekday
			if l, err := zone.Times(berlin, c.m); !slices.Equal(l, c.want) || err != api.OK {
				t.Errorf("Times(%v) is %d, %d, not %d", c.m, l, err, c.want)
			}
		}
	}
}

func TestTimesAreThoseOfTheMoment(t *testing.T) { // 6.2
	for _, z := range zones() {
		c := clocksOf(z)
		for i, at := range c.some() {
			for _, local := range []int64{at, at + int64(c.offset(at))*60} {
				if local < api.MinTime || local > api.MaxTime {
					continue
				}
				m := moment(local)
				m.Weekday += i%3 - 1 // whatever it is
				want := c.times(local)
				if l, err := zone.Times(z, m); !slices.Equal(l, want) || err != api.OK {
					t.Fatalf("%v: Times(%v) is %d, %d, not %d", z, m, l, err, want)
				}
			}
		}
	}
}

func TestTimesRefusesWhatIsNotRight(t *testing.T) { // 6.2
	right := moment(1774745999)
	for _, z := range zones() {
		for _, change := range []func(m *api.Moment){
			func(m *api.Moment) { *m = api.Moment{} },
			func(m *api.Moment) { m.Year = 0 },
			func(m *api.Moment) { m.Year = 10000 },
			func(m *api.Moment) { m.Month = 13 },
			func(m *api.Moment) { m.Month, m.Day = 2, 29 },
			func(m *api.Moment) { m.Day = 0 },
			func(m *api.Moment) { m.Hour = 24 },
			func(m *api.Moment) { m.Minute = 60 },
			func(m *api.Moment) { m.Second = -1 },
			func(m *api.Moment) { m.Second = math.MaxInt },
		} {
			m := right
			change(&m)
			if l, err := zone.Times(z, m); len(l) != 0 || err != api.ErrForm {
				t.Errorf("%v: Times(%v) is %d, %d, not ErrForm", z, m, l, err)
			}
		}
	}
}

func TestNextTellsTheFirstSwitchBehind(t *testing.T) { // 6.2
	for _, z := range zones() {
		c := clocksOf(z)
		for _, at := range c.some() {
			want, wantErr := int64(0), api.ErrNone
			if n := c.upTo(at); n < len(c.turns) {
				want, wantErr = c.turns[n].at, api.OK
			}
			if n, err := zone.Next(z, at); n != want || err != wantErr {
				t.Fatalf("%v: Next(%d) is %d, %d, not %d, %d", z, at, n, err, want, wantErr)
			}
		}
	}
}

func TestNoTimesAreRefused(t *testing.T) { // 6.2
	for _, z := range zones() {
		for _, at := range noTimes {
			if n, err := zone.Offset(z, at); n != 0 || err != api.ErrRange {
				t.Errorf("%v: Offset(%d) is %d, %d, not ErrRange", z, at, n, err)
			}
			if m, err := zone.Local(z, at); m != (api.Moment{}) || err != api.ErrRange {
				t.Errorf("%v: Local(%d) is %v, %d, not ErrRange", z, at, m, err)
			}
			if n, err := zone.Next(z, at); n != 0 || err != api.ErrRange {
				t.Errorf("%v: Next(%d) is %d, %d, not ErrRange", z, at, n, err)
			}
		}
	}
}

func TestWhatIsBeyondTheEndsIsNoSwitch(t *testing.T) { // 6.2
	ahead := api.Zone{Base: 900, Save: 60, From: api.Switch{Month: 1, Nth: 1, Weekday: 1}, To: api.Switch{Month: 3, Nth: 1, Weekday: 3}}
	if n, err := zone.Offset(ahead, api.MinTime); n != 900 || err != api.OK {
		t.Errorf("a summer that would begin ahead of all times: %d, %d", n, err)
	}
	ahead.From.Minute = 900
	if n, err := zone.Offset(ahead, api.MinTime); n != 960 || err != api.OK {
		t.Errorf("a summer that begins with the first time: %d, %d", n, err)
	}
	if m, err := zone.Local(ahead, api.MinTime); m != moment(api.MinTime+960*60) || err != api.OK {
		t.Errorf("it begins at %v, %d", m, err)
	}
	behind := api.Zone{Base: 0, Save: 60, From: api.Switch{Month: 12, Nth: 5, Weekday: 5, Minute: 1439}, To: api.Switch{Month: 3, Nth: 1, Weekday: 3}}
	if n, err := zone.Next(behind, api.MaxTime-60); n != api.MaxTime-59 || err != api.OK {
		t.Errorf("a summer that begins with the last minute: %d, %d", n, err)
	}
	if n, err := zone.Next(behind, api.MaxTime-59); n != 0 || err != api.ErrNone {
		t.Errorf("none is behind the last one: %d, %d", n, err)
	}
	behind.Base = -1
	if n, err := zone.Next(behind, api.MaxTime-60); n != 0 || err != api.ErrNone {
		t.Errorf("a summer that would begin behind all times: %d, %d", n, err)
	}
}

func TestAnswersAreNewMemory(t *testing.T) { // 6.3
	berlin, _ := zone.Named("Europe/Berlin")
	twice := api.Moment{Year: 2026, Month: 10, Day: 25, Hour: 2, Minute: 30}
	l, _ := zone.Times(berlin, twice)
	was := slices.Clone(l)
	m, _ := zone.Times(berlin, twice)
	l[0], l[1] = 7, 8
	_ = append(l[:1], 9)
	if again, _ := zone.Times(berlin, twice); !slices.Equal(m, was) || !slices.Equal(again, was) {
		t.Errorf("Times is %d, and %d, and was %d", m, again, was)
	}
	berlin.Base, berlin.From = 7, api.Switch{}
	if z, err := zone.Named("Europe/Berlin"); z != names()["Europe/Berlin"] || err != api.OK {
		t.Errorf("Named is %v, %d", z, err)
	}
}

func TestTimesAreThoseOfTheirMoments(t *testing.T) { // 6.4
	for _, z := range zones() {
		for _, at := range clocksOf(z).some() {
			m, err := zone.Local(z, at)
			if err != api.OK {
				continue
			}
			l, err := zone.Times(z, m)
			if !slices.Contains(l, at) || len(l) > 2 || !slices.IsSorted(l) || err != api.OK {
				t.Fatalf("%v: the times of %v are %d, %d, not %d", z, m, l, err, at)
			}
		}
	}
}

func TestTheOffsetStaysUpToTheNextSwitch(t *testing.T) { // 6.5
	r := rand.New(rand.NewSource(8))
	for _, z := range zones() {
		for _, at := range clocksOf(z).some() {
			end, err := zone.Next(z, at)
			if err != api.OK {
				end = api.MaxTime + 1
			}
			was, _ := zone.Offset(z, at)
			for _, t2 := range []int64{end - 1, at + (end-at)/2, at + r.Int63n(end-at)} {
				if n, err := zone.Offset(z, t2); n != was || err != api.OK {
					t.Fatalf("%v: Offset(%d) is %d, %d, and at %d %d", z, t2, n, err, at, was)
				}
			}
		}
	}
}
