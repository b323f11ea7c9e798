package quiet_test

import (
	"math"
	"math/rand"
	"slices"
	"testing"

	"bellman/api"
	"bellman/quiet"
	"bellman/zone"
)

const (
	day      = int64(86400)
	weekLong = 7 * day
	sunday   = 3 * day           // January 4th of 1970
	spring   = int64(1774746000) // 2026-3-29 1:00: summer begins in Europe
	autumn   = int64(1792890000) // 2026-10-25 1:00: it ends
)

// noTimes are numbers that are no times.
var noTimes = []int64{api.MinTime - 1, api.MaxTime + 1, api.MinTime - 86400, api.MaxTime + 86400, math.MinInt64, math.MaxInt64}

// all is the week that has all minutes.
var all = []api.Range{{From: 0, To: 10080}}

// zones are right zones: plain ones, ones with summers, and ones whose clocks are far ahead, or behind.
func zones() map[string]api.Zone {
	last := func(month, minute int) api.Switch { return api.Switch{Month: month, Nth: 5, Minute: minute} }
	first := func(month, minute int) api.Switch { return api.Switch{Month: month, Nth: 1, Minute: minute} }
	return map[string]api.Zone{
		"UTC":        {},
		"Kolkata":    {Base: 330},
		"Berlin":     {Base: 60, Save: 60, From: last(3, 120), To: last(10, 180)},
		"New York":   {Base: -300, Save: 60, From: api.Switch{Month: 3, Nth: 2, Minute: 120}, To: first(11, 120)},
		"Sydney":     {Base: 600, Save: 60, From: first(10, 120), To: first(4, 180)},
		"far ahead":  {Base: 900},
		"far behind": {Base: -900},
		"two hours":  {Base: -17, Save: 120, From: first(5, 77), To: first(8, 1439)},
		"a minute":   {Base: 1, Save: 1, From: first(5, 0), To: first(8, 0)},
		// Its clocks go back in the last hours of all times.
		"back at the end": {Base: 0, Save: 120, From: first(5, 0), To: api.Switch{Month: 12, Nth: 5, Weekday: 5, Minute: 1439}},
		// Its clocks end to tell moments, by going ahead.
		"ahead at the end": {Base: 0, Save: 120, From: api.Switch{Month: 12, Nth: 5, Weekday: 5, Minute: 1400}, To: first(5, 0)},
		// Its clocks begin to tell moments, by going ahead.
		"ahead at the beginning": {Base: -900, Save: 120, From: api.Switch{Month: 1, Nth: 1, Weekday: 1}, To: first(8, 0)},
	}
}

// weeks are right weeks: none of a minute, all of them, single ones at edges, all but one, nights, a comb, and any others.
func weeks() map[string][]api.Range {
	var comb, some []api.Range
	for i := range 64 {
		comb = append(comb, api.Range{From: i * 150, To: i*150 + 75})
	}
	nights := []api.Range{{From: 0, To: 420}}
	for i := range 7 {
		nights = append(nights, api.Range{From: i*1440 + 1320, To: min(i*1440+1860, 10080)})
	}
	r := rand.New(rand.NewSource(8))
	edges := r.Perm(10081)[:20]
	slices.Sort(edges)
	for i := 1; i < len(edges); i += 2 {
		some = append(some, api.Range{From: edges[i-1], To: edges[i]})
	}
	return map[string][]api.Range{
		"none":           nil,
		"all":            {{From: 0, To: 10080}},
		"the first":      {{From: 0, To: 1}},
		"the last":       {{From: 10079, To: 10080}},
		"not the first":  {{From: 1, To: 10080}},
		"not the last":   {{From: 0, To: 10079}},
		"one":            {{From: 5000, To: 5001}},
		"not one":        {{From: 0, To: 5000}, {From: 5001, To: 10080}},
		"Sunday at 2":    {{From: 120, To: 180}},
		"not then":       {{From: 0, To: 120}, {From: 180, To: 10080}},
		"the ends":       {{From: 0, To: 60}, {From: 10000, To: 10080}},
		"Friday night":   {{From: 7100, To: 8700}},
		"Monday morning": {{From: 1440, To: 1800}},
		"nights":         nights,
		"comb":           comb,
		"some":           some,
	}
}

// right are right quiet hours, by names.
func right() map[string]api.Quiet {
	l := map[string]api.Quiet{}
	for zn, z := range zones() {
		for wn, w := range weeks() {
			l[zn+", "+wn] = api.Quiet{Zone: z, Week: w}
		}
	}
	return l
}

// wrong are quiet hours that are not right.
func wrong() map[string]api.Quiet {
	return map[string]api.Quiet{
		"a zone too far ahead":       {Zone: api.Zone{Base: 901}},
		"and a right week":           {Zone: api.Zone{Base: -901}, Week: []api.Range{{From: 5, To: 6}}},
		"and all minutes":            {Zone: api.Zone{Base: math.MaxInt}, Week: all},
		"a zone without switches":    {Zone: api.Zone{Save: 60}},
		"a zone with one too much":   {Zone: api.Zone{To: api.Switch{Minute: 1}}, Week: []api.Range{{From: 5, To: 6}}},
		"an empty range":             {Week: []api.Range{{}}},
		"a range the wrong way":      {Zone: zones()["Berlin"], Week: []api.Range{{From: 600, To: 60}}},
		"a range too long":           {Week: []api.Range{{From: 0, To: 10081}}},
		"ranges that touch":          {Zone: zones()["Berlin"], Week: []api.Range{{From: 0, To: 5000}, {From: 5000, To: 10080}}},
		"65 ranges":                  {Week: make([]api.Range, 65)},
		"both":                       {Zone: api.Zone{Base: 901}, Week: []api.Range{{From: 7, To: 7}}},
		"a range without any bounds": {Week: []api.Range{{From: math.MinInt, To: math.MaxInt}}},
	}
}

// isQuiet tells whether it is quiet at the time, by the moment that the clocks tell.
func isQuiet(q api.Quiet, t int64) bool {
	m, err := zone.Local(q.Zone, t)
	minute := m.Weekday*1440 + m.Hour*60 + m.Minute
	return err == api.OK && slices.ContainsFunc(q.Week, func(r api.Range) bool { return r.From <= minute && minute < r.To })
}

// find goes on from t minute by minute, till it is quiet, or is not: for three weeks, in which each minute of a week must have been; at the end of all times for less.
func find(q api.Quiet, t int64, in bool) (int64, bool) {
	for at := t; at <= min(t+3*weekLong, api.MaxTime); at += 60 - (at-api.MinTime)%60 {
		if isQuiet(q, at) == in {
			return at, true
		}
	}
	return 0, false
}

// times are times about the edges of minutes, of days, of weeks, of summers and of all times, and any others.
func times(q api.Quiet) []int64 {
	l := []int64{0, 1, -1, 59, 60, -60, sunday, sunday - 1, sunday + 120*60, sunday + 5000*60, sunday + 5001*60 - 1, sunday + 7100*60 - 7}
	for _, d := range []int64{0, 1, 59, 60, 3600, 7200, 54000, 54001, 57600, 86400, weekLong} {
		l = append(l, api.MinTime+d, api.MaxTime-d)
	}
	for _, from := range []int64{0, spring - 20*day, autumn - 20*day, api.MinTime, api.MaxTime - 400*day} {
		if at, err := zone.Next(q.Zone, from); err == api.OK {
			for _, d := range []int64{-2*weekLong + 61, -weekLong, -7200, -3600, -60, -1, 0, 1, 3600} {
				l = append(l, at+d)
			}
		}
	}
	r := rand.New(rand.NewSource(88))
	for range 5 {
		l = append(l, api.MinTime+r.Int63n(api.MaxTime-api.MinTime+1))
	}
	return slices.DeleteFunc(l, func(t int64) bool { return t < api.MinTime || t > api.MaxTime })
}

func TestCheckTellsWhatIsRight(t *testing.T) { // 8.1
	for name, q := range right() {
		if err := quiet.Check(q); err != api.OK {
			t.Errorf("%s: Check is %d", name, err)
		}
	}
	if err := quiet.Check(api.Quiet{}); err != api.OK {
		t.Errorf("Check of nothing is %d", err)
	}
}

func TestCheckTellsWhatIsWrong(t *testing.T) { // 8.1
	for name, q := range wrong() {
		if err := quiet.Check(q); err != api.ErrForm {
			t.Errorf("%s: Check is %d, not ErrForm", name, err)
		}
	}
}

func TestTheOthersCheckFirst(t *testing.T) { // 8.1
	for name, q := range wrong() {
		for _, at := range append([]int64{0}, noTimes...) {
			if is, err := quiet.In(q, at); is || err != api.ErrForm {
				t.Errorf("%s: In(%d) is %t, %d, not ErrForm", name, at, is, err)
			}
			if n, err := quiet.Free(q, at); n != 0 || err != api.ErrForm {
				t.Errorf("%s: Free(%d) is %d, %d, not ErrForm", name, at, n, err)
			}
			if n, err := quiet.Busy(q, at); n != 0 || err != api.ErrForm {
				t.Errorf("%s: Busy(%d) is %d, %d, not ErrForm", name, at, n, err)
			}
		}
		if n, err := quiet.Longest(q); n != 0 || err != api.ErrForm {
			t.Errorf("%s: Longest is %d, %d, not ErrForm", name, n, err)
		}
	}
}

func TestNoTimesAreRefused(t *testing.T) { // 8.1, 8.2
	for name, q := range right() {
		for _, at := range noTimes {
			if is, err := quiet.In(q, at); is || err != api.ErrRange {
				t.Errorf("%s: In(%d) is %t, %d, not ErrRange", name, at, is, err)
			}
			if n, err := quiet.Free(q, at); n != 0 || err != api.ErrRange {
				t.Errorf("%s: Free(%d) is %d, %d, not ErrRange", name, at, n, err)
			}
			if n, err := quiet.Busy(q, at); n != 0 || err != api.ErrRange {
				t.Errorf("%s: Busy(%d) is %d, %d, not ErrRange", name, at, n, err)
			}
		}
	}
}

func TestInOfPlainTimes(t *testing.T) { // 8.1
	berlin := api.Quiet{Zone: zones()["Berlin"], Week: []api.Range{{From: 120, To: 180}}}
	far := func(base int, w ...api.Range) api.Quiet { return api.Quiet{Zone: api.Zone{Base: base}, Week: w} }
	monday, friday := api.Range{From: 1440, To: 2880}, api.Range{From: 7200, To: 8640}
	for _, c := range []struct {
		q    api.Quiet
		at   int64
		want bool
	}{
		{far(0, api.Range{From: 5, To: 6}), sunday + 299, false},
		{far(0, api.Range{From: 5, To: 6}), sunday + 300, true},
		{far(0, api.Range{From: 5, To: 6}), sunday + 359, true},
		{far(0, api.Range{From: 5, To: 6}), sunday + 360, false},
		{far(5, api.Range{From: 5, To: 6}), sunday - 1, false},
		{far(5, api.Range{From: 5, To: 6}), sunday, true},
		{far(-5, api.Range{From: 10075, To: 10076}), sunday, true},
		{far(0, all...), api.MinTime, true},
		{far(0, all...), api.MaxTime, true},
		// Their clocks tell no moment yet, or none any more.
		{far(-900, all...), api.MinTime, false},
		{far(-900, all...), api.MinTime + 53999, false},
		{far(-900, all...), api.MinTime + 54000, true},
		{far(-900, monday), api.MinTime + 54000, true},
		{far(1, all...), api.MaxTime - 60, true},
		{far(1, all...), api.MaxTime - 59, false},
		{far(900, friday), api.MaxTime - 54000, true},
		{far(900, all...), api.MaxTime - 53999, false},
		// Sunday at 2 is left out in the spring, and is twice in the autumn.
		{berlin, spring - 1, false},
		{berlin, spring, false},
		{berlin, autumn - 3601, false},
		{berlin, autumn - 3600, true},
		{berlin, autumn - 1, true},
		{berlin, autumn, true},
		{berlin, autumn + 3599, true},
		{berlin, autumn + 3600, false},
	} {
		if is, err := quiet.In(c.q, c.at); is != c.want || err != api.OK {
			t.Errorf("In(%v, %d) is %t, %d", c.q, c.at, is, err)
		}
	}
}

func TestInTellsByTheClocks(t *testing.T) { // 8.1
	for name, q := range right() {
		for _, at := range times(q) {
			if is, err := quiet.In(q, at); is != isQuiet(q, at) || err != api.OK {
				t.Errorf("%s: In(%d) is %t, %d", name, at, is, err)
			}
		}
	}
}

func TestFreeAndBusyOfPlainTimes(t *testing.T) { // 8.2
	night := []api.Range{{From: 0, To: 420}, {From: 1320, To: 1860}, {From: 2760, To: 2880}}
	utc := api.Quiet{Week: night}
	berlin := api.Quiet{Zone: zones()["Berlin"], Week: []api.Range{{From: 120, To: 180}}}
	open := api.Quiet{Zone: zones()["Berlin"], Week: []api.Range{{From: 0, To: 120}, {From: 180, To: 10080}}}
	hour := int64(3600)
	for _, c := range []struct {
		q          api.Quiet
		at         int64
		free, busy int64
	}{
		{utc, sunday + 23*hour, sunday + 31*hour, sunday + 23*hour},
		{utc, sunday + 31*hour - 1, sunday + 31*hour, sunday + 31*hour - 1},
		{utc, sunday + 31*hour, sunday + 31*hour, sunday + 46*hour},
		{utc, sunday + 40*hour + 7, sunday + 40*hour + 7, sunday + 46*hour},
		{utc, sunday + 47*hour + 59, sunday + 48*hour, sunday + 47*hour + 59},
		{utc, sunday + 50*hour, sunday + 50*hour, sunday + weekLong},
		// The hour is left out, so it is quiet a week later; and the other way.
		{berlin, spring - hour, spring - hour, spring + weekLong - hour},
		{open, spring - hour, spring + weekLong - hour, spring - hour},
		{open, spring - weekLong + hour, spring + weekLong - hour, spring - weekLong + hour},
		// It is there twice.
		{berlin, autumn - hour, autumn + hour, autumn - hour},
		{berlin, autumn - hour - 1, autumn - hour - 1, autumn - hour},
		{open, autumn - hour, autumn - hour, autumn + hour},
	} {
		if n, err := quiet.Free(c.q, c.at); n != c.free || err != api.OK {
			t.Errorf("Free(%v, %d) is %d, %d, not %d", c.q, c.at, n, err, c.free)
		}
		if n, err := quiet.Busy(c.q, c.at); n != c.busy || err != api.OK {
			t.Errorf("Busy(%v, %d) is %d, %d, not %d", c.q, c.at, n, err, c.busy)
		}
	}
}

func TestFreeAndBusyAtTheEnds(t *testing.T) { // 8.2
	far := func(base int, w ...api.Range) api.Quiet { return api.Quiet{Zone: api.Zone{Base: base}, Week: w} }
	most := []api.Range{{From: 0, To: 5000}, {From: 5001, To: 10080}} // MaxTime is on a Friday, minute 8639
	friday, sundays := api.Range{From: 7200, To: 8640}, api.Range{From: 0, To: 1440}
	at := func(name string, w ...api.Range) api.Quiet { return api.Quiet{Zone: zones()[name], Week: w} }
	back, ahead, begin := api.MaxTime+1-int64(7260), api.MaxTime+1-int64(2400), api.MinTime+int64(54000)
	type answer struct {
		at  int64
		err api.Errno
	}
	none, ok := answer{0, api.ErrNone}, func(at int64) answer { return answer{at, api.OK} }
	for _, c := range []struct {
		q          api.Quiet
		at         int64
		free, busy answer
	}{
		{far(0, all...), 0, none, ok(0)},
		{far(0), 0, ok(0), none},
		{far(0), api.MaxTime, ok(api.MaxTime), none},
		{far(0, most...), api.MaxTime, none, ok(api.MaxTime)},
		{far(0, most...), api.MaxTime - day, none, ok(api.MaxTime - day)},
		{far(0, sundays), api.MaxTime - day, ok(api.MaxTime - day), none},
		{far(-900, most...), api.MaxTime - 5, none, ok(api.MaxTime - 5)},
		// With all minutes there is none, even where the clocks tell no moment.
		{far(-900, all...), api.MinTime, none, ok(api.MinTime + 54000)},
		{far(-900, all...), api.MinTime + 53999, none, ok(api.MinTime + 54000)},
		{far(-900, most...), api.MinTime + 7, ok(api.MinTime + 7), ok(api.MinTime + 54000)},
		{far(-900, sundays), api.MinTime, ok(api.MinTime), ok(api.MinTime + 54000 + 6*day)},
		{far(900, all...), api.MaxTime, none, none},
		{far(900, all...), api.MaxTime - 53999, none, none},
		{far(900, all...), api.MaxTime - 54000, none, ok(api.MaxTime - 54000)},
		{far(900, most...), api.MaxTime - day, ok(api.MaxTime - 53999), ok(api.MaxTime - day)},
		{far(900, friday), api.MaxTime - 54000, ok(api.MaxTime - 53999), ok(api.MaxTime - 54000)},
		{far(900, friday), api.MaxTime - 53999, ok(api.MaxTime - 53999), none},
		{far(900, sundays), api.MaxTime - 5*day, ok(api.MaxTime - 5*day), none},
		// The clocks go back from 23:59 to 21:59: what was quiet is so again.
		{at("back at the end", api.Range{From: 8630, To: 8640}), back, ok(back), ok(back + 111*60)},
		{at("back at the end", api.Range{From: 8630, To: 8640}), back - 1, ok(back), ok(back - 1)},
		{at("back at the end", friday), back - 1, none, ok(back - 1)},
		{at("back at the end", api.Range{From: 8520, To: 8638}), back - 30, ok(back - 30), ok(back + 60)},
		// They go ahead from 23:20 to what is no moment any more.
		{at("ahead at the end", most...), ahead - 1, ok(ahead), ok(ahead - 1)},
		{at("ahead at the end", most...), ahead, ok(ahead), none},
		{at("ahead at the end", api.Range{From: 8600, To: 8640}), ahead - 61, ok(ahead - 61), none},
		// The first moment that they tell is 2:00, on a Monday.
		{at("ahead at the beginning", all...), begin - 1, none, ok(begin)},
		{at("ahead at the beginning", api.Range{From: 1440, To: 1560}), begin - 7, ok(begin - 7), ok(begin - 7200 + weekLong)},
		{at("ahead at the beginning", api.Range{From: 1559, To: 1561}), begin - 7, ok(begin - 7), ok(begin)},
		{at("ahead at the beginning", api.Range{From: 1559, To: 1561}), begin, ok(begin + 60), ok(begin)},
	} {
		if n, err := quiet.Free(c.q, c.at); (answer{n, err}) != c.free {
			t.Errorf("Free(%v, %d) is %d, %d, not %v", c.q, c.at, n, err, c.free)
		}
		if n, err := quiet.Busy(c.q, c.at); (answer{n, err}) != c.busy {
			t.Errorf("Busy(%v, %d) is %d, %d, not %v", c.q, c.at, n, err, c.busy)
		}
	}
}

func TestFreeAndBusyTellTheFirstTime(t *testing.T) { // 8.2
	for name, q := range right() {
		n := 0
		for _, r := range q.Week {
			n += r.To - r.From
		}
		for i, at := range times(q) {
			if (i+len(name))%5 != 0 { // going minute by minute is slow: each has some of the times, and all together have all
				continue
			}
			for _, in := range []bool{true, false} {
				call, never := quiet.Free, n == 10080
				if in {
					call, never = quiet.Busy, n == 0
				}
				want, found := int64(0), false
				if !never {
					want, found = find(q, at, in)
				}
				wantErr := api.OK
				if !found {
					wantErr = api.ErrNone
				}
				if got, err := call(q, at); got != want || err != wantErr {
					t.Fatalf("%s: from %d on (in %t): %d, %d, not %d, %d", name, at, in, got, err, want, wantErr)
				}
			}
		}
	}
}

func TestLongestIsTwiceTheMinutes(t *testing.T) { // 8.2
	for _, c := range []struct {
		w    []api.Range
		want int64
		err  api.Errno
	}{
		{nil, 0, api.OK},
		{[]api.Range{}, 0, api.OK},
		{all, 0, api.ErrNone},
		{[]api.Range{{From: 5, To: 6}}, 120, api.OK},
		{[]api.Range{{From: 0, To: 10079}}, 2 * 60 * 10079, api.OK},
		{[]api.Range{{From: 0, To: 420}, {From: 1320, To: 1860}}, 115200, api.OK},
	} {
		for _, z := range zones() {
			if n, err := quiet.Longest(api.Quiet{Zone: z, Week: c.w}); n != c.want || err != c.err {
				t.Errorf("Longest(%v, %v) is %d, %d, not %d, %d", z, c.w, n, err, c.want, c.err)
			}
		}
	}
}

func TestWhatIsHandedInStaysAsItIs(t *testing.T) { // 8.3
	for name, q := range right() {
		was := slices.Clone(q.Week)
		answers := func() [7]int64 {
			is, err1 := quiet.In(q, spring)
			free, err2 := quiet.Free(q, spring)
			busy, err3 := quiet.Busy(q, spring)
			longest, _ := quiet.Longest(q)
			if is {
				longest++
			}
			return [7]int64{free, busy, longest, int64(err1), int64(err2), int64(err3), int64(quiet.Check(q))}
		}
		if first := answers(); answers() != first || !slices.Equal(q.Week, was) {
			t.Errorf("%s: the answers were %v, the week is %v", name, first, q.Week)
		}
	}
}

func TestFreeIsNoFurtherThanLongest(t *testing.T) { // 8.4
	for name, q := range right() {
		longest, err := quiet.Longest(q)
		if err != api.OK {
			continue
		}
		for _, at := range times(q) {
			free, err := quiet.Free(q, at)
			if err != api.OK {
				continue
			}
			if is, err := quiet.In(q, free); is || err != api.OK {
				t.Errorf("%s: free at %d, and In is %t, %d", name, free, is, err)
			}
			if free < at || free-at > longest {
				t.Errorf("%s: free from %d on at %d, and the longest is %d", name, at, free, longest)
			}
			for _, between := range []int64{at, at + (free-at)/2, at + (free-at)/3, free - 61, free - 1} {
				if between < at || between >= free {
					continue
				}
				if is, err := quiet.In(q, between); !is || err != api.OK {
					t.Errorf("%s: from %d free at %d, and at %d In is %t, %d", name, at, free, between, is, err)
				}
			}
		}
	}
}
