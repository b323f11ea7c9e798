package civil_test

import (
	"math"
	"math/rand"
	"testing"
	"time"

	"bellman/api"
	"bellman/civil"
)

// noTimes are numbers that are no times.
var noTimes = []int64{api.MinTime - 1, api.MaxTime + 1, api.MinTime - 86400, api.MaxTime + 86400, math.MinInt64, math.MinInt64 + 1, math.MaxInt64}

// noMonths are years and months of which there are none.
var noMonths = [][2]int{{0, 1}, {0, 12}, {10000, 1}, {-1, 6}, {-4, 2}, {2026, 0}, {2026, 13}, {2026, -1}, {0, 0}, {1, 0}, {9999, 13}, {2026, math.MaxInt}, {2026, math.MinInt}, {math.MaxInt, 1}, {math.MinInt, 12}, {math.MaxInt, math.MaxInt}, {math.MinInt, math.MinInt}}

// noDays are years, months and days of which there are none.
var noDays = [][3]int{{2026, 1, 0}, {2026, 1, -1}, {2026, 1, 32}, {2026, 2, 29}, {2024, 2, 30}, {2000, 2, 30}, {1900, 2, 29}, {2100, 2, 29}, {2026, 3, 32}, {2026, 4, 31}, {2026, 5, 32}, {2026, 6, 31}, {2026, 7, 32}, {2026, 8, 32}, {2026, 9, 31}, {2026, 10, 32}, {2026, 11, 31}, {2026, 12, 32}, {9999, 12, 32}, {1, 1, 0}, {2026, 5, math.MaxInt}, {2026, 5, math.MinInt}}

// day is one of the calendar: its number is 0 of January 1st of the year 1.
type day struct {
	number, year, month, day, weekday int
}

// walk goes through all days there are, one by one, as the document's words tell what a year is.
func walk(each func(day)) {
	d := day{year: 1, month: 1, day: 1, weekday: 1}
	for d.year <= 9999 {
		each(d)
		d.number++
		d.weekday = (d.weekday + 1) % 7
		d.day++
		if d.day > monthLong(d.year, d.month) {
			d.day = 1
			d.month++
		}
		if d.month > 12 {
			d.month = 1
			d.year++
		}
	}
}

// monthLong is how many days the month has.
func monthLong(year, month int) int {
	switch month {
	case 4, 6, 9, 11:
		return 30
	case 2:
		if year%400 == 0 || year%4 == 0 && year%100 != 0 {
			return 29
		}
		return 28
	}
	return 31
}

// someTimes are times about every edge: the ends, the epoch, the ends of years, months, days, minutes, and any others.
func someTimes() []int64 {
	all := []int64{0, 1, -1, 59, 60, -59, -60, -61, 3599, 3600, 86399, 86400, -86400, -86401, 604800, -604800, api.MinTime, api.MaxTime}
	for _, year := range []int{1, 2, 4, 5, 99, 100, 101, 399, 400, 401, 1600, 1900, 1969, 1970, 1972, 1999, 2000, 2001, 2026, 2100, 9996, 9999} {
		for month := 1; month <= 12; month++ {
			t := time.Date(year, time.Month(month), 1, 0, 0, 0, 0, time.UTC).Unix()
			all = append(all, t-1, t, t+1, t+60, t+86399)
		}
	}
	r := rand.New(rand.NewSource(5))
	for range 5000 {
		all = append(all, api.MinTime+r.Int63n(api.MaxTime-api.MinTime+1))
	}
	var times []int64
	for _, t := range all {
		if t >= api.MinTime && t <= api.MaxTime {
			times = append(times, t)
		}
	}
	return times
}

// model is the moment by the clocks of Go's library.
func model(t int64) api.Moment {
	m := time.Unix(t, 0).UTC()
	return api.Moment{Year: m.Year(), Month: int(m.Month()), Day: m.Day(), Hour: m.Hour(), Minute: m.Minute(), Second: m.Second(), Weekday: int(m.Weekday())}
}

func TestOfTellsTheMoment(t *testing.T) { // 5.1
	for at, want := range map[int64]api.Moment{
		0:            {Year: 1970, Month: 1, Day: 1, Weekday: 4},
		-1:           {Year: 1969, Month: 12, Day: 31, Hour: 23, Minute: 59, Second: 59, Weekday: 3},
		59:           {Year: 1970, Month: 1, Day: 1, Second: 59, Weekday: 4},
		3661:         {Year: 1970, Month: 1, Day: 1, Hour: 1, Minute: 1, Second: 1, Weekday: 4},
		951782400:    {Year: 2000, Month: 2, Day: 29, Weekday: 2},
		951868800:    {Year: 2000, Month: 3, Day: 1, Weekday: 3},
		-2203891200:  {Year: 1900, Month: 3, Day: 1, Weekday: 4},
		-2203891201:  {Year: 1900, Month: 2, Day: 28, Hour: 23, Minute: 59, Second: 59, Weekday: 3},
		1795000000:   {Year: 2026, Month: 11, Day: 18, Hour: 11, Minute: 6, Second: 40, Weekday: 3},
		api.MinTime:  {Year: 1, Month: 1, Day: 1, Weekday: 1},
		api.MaxTime:  {Year: 9999, Month: 12, Day: 31, Hour: 23, Minute: 59, Second: 59, Weekday: 5},
		2147483648:   {Year: 2038, Month: 1, Day: 19, Hour: 3, Minute: 14, Second: 8, Weekday: 2},
		-2147483649:  {Year: 1901, Month: 12, Day: 13, Hour: 20, Minute: 45, Second: 51, Weekday: 5},
		4107542399:   {Year: 2100, Month: 2, Day: 28, Hour: 23, Minute: 59, Second: 59, Weekday: 0},
		4107542400:   {Year: 2100, Month: 3, Day: 1, Weekday: 1},
		1709251199:   {Year: 2024, Month: 2, Day: 29, Hour: 23, Minute: 59, Second: 59, Weekday: 4},
		-62104060801: {Year: 1, Month: 12, Day: 31, Hour: 23, Minute: 59, Second: 59, Weekday: 1},
		253370764800: {Year: 9999, Month: 1, Day: 1, Weekday: 5},
	} {
		if m, err := civil.Of(at); m != want || err != api.OK {
			t.Errorf("Of(%d) is %v, %d, not %v", at, m, err, want)
		}
	}
	for _, at := range someTimes() {
		if m, err := civil.Of(at); m != model(at) || err != api.OK {
			t.Fatalf("Of(%d) is %v, %d, not %v", at, m, err, model(at))
		}
	}
}

func TestOfRefusesWhatIsNoTime(t *testing.T) { // 5.1
	for _, at := range noTimes {
		if m, err := civil.Of(at); m != (api.Moment{}) || err != api.ErrRange {
			t.Errorf("Of(%d) is %v, %d, not ErrRange", at, m, err)
		}
	}
}

func TestTimeTellsTheTime(t *testing.T) { // 5.1
	for _, c := range []struct {
		m    api.Moment
		want int64
	}{
		{api.Moment{Year: 1970, Month: 1, Day: 1, Weekday: 4}, 0},
		{api.Moment{Year: 1969, Month: 12, Day: 31, Hour: 23, Minute: 59, Second: 59}, -1},
		{api.Moment{Year: 2000, Month: 2, Day: 29}, 951782400},
		{api.Moment{Year: 2000, Month: 3, Day: 1}, 951868800},
		{api.Moment{Year: 1, Month: 1, Day: 1}, api.MinTime},
		{api.Moment{Year: 9999, Month: 12, Day: 31, Hour: 23, Minute: 59, Second: 59}, api.MaxTime},
		{api.Moment{Year: 2026, Month: 11, Day: 18, Hour: 11, Minute: 6, Second: 40}, 1795000000},
	} {
		for _, weekday := range []int{c.m.Weekday, 0, 3, 6, 7, -1, math.MaxInt, math.MinInt} {
			c.m.Weekday = weekday
			if at, err := civil.Time(c.m); at != c.want || err != api.OK {
				t.Errorf("Time(%v) is %d, %d, not %d", c.m, at, err, c.want)
			}
		}
	}
}

func TestTimeRefusesWhatIsNotRight(t *testing.T) { // 5.1
	check := func(m api.Moment) {
		t.Helper()
		if at, err := civil.Time(m); at != 0 || err != api.ErrForm {
			t.Errorf("Time(%v) is %d, %d, not ErrForm", m, at, err)
		}
	}
	check(api.Moment{})
	for _, d := range noMonths {
		check(api.Moment{Year: d[0], Month: d[1], Day: 1})
	}
	for _, d := range noDays {
		check(api.Moment{Year: d[0], Month: d[1], Day: d[2]})
	}
	right := api.Moment{Year: 2026, Month: 11, Day: 18, Hour: 11, Minute: 6, Second: 40, Weekday: 3}
	for _, n := range []int{-1, 24, 25, 60, math.MaxInt, math.MinInt} {
		m := right
		m.Hour = n
		check(m)
	}
	for _, n := range []int{-1, 60, 61, math.MaxInt, math.MinInt} {
		m := right
		m.Minute = n
		check(m)
		m = right
		m.Second = n
		check(m)
	}
}

func TestEachDayIsTold(t *testing.T) { // 5.1, 5.2
	last := 0
	walk(func(d day) {
		begins := api.MinTime + int64(d.number)*86400
		want := api.Moment{Year: d.year, Month: d.month, Day: d.day, Weekday: d.weekday}
		if m, err := civil.Of(begins); m != want || err != api.OK {
			t.Fatalf("Of(%d) is %v, %d, not %v", begins, m, err, want)
		}
		if at, err := civil.Time(want); at != begins || err != api.OK {
			t.Fatalf("Time(%v) is %d, %d, not %d", want, at, err, begins)
		}
		want.Hour, want.Minute, want.Second = 23, 59, 59
		if m, err := civil.Of(begins + 86399); m != want || err != api.OK {
			t.Fatalf("Of(%d) is %v, %d, not %v", begins+86399, m, err, want)
		}
		if k, err := civil.Weekday(d.year, d.month, d.day); k != d.weekday || err != api.OK {
			t.Fatalf("Weekday(%d, %d, %d) is %d, %d, not %d", d.year, d.month, d.day, k, err, d.weekday)
		}
		last = d.number
	})
	if api.MinTime+int64(last)*86400+86399 != api.MaxTime {
		t.Errorf("there are %d days", last)
	}
}

func TestDaysTellsHowMany(t *testing.T) { // 5.2
	for year := 1; year <= 9999; year++ {
		for month := 1; month <= 12; month++ {
			if n, err := civil.Days(year, month); n != monthLong(year, month) || err != api.OK {
				t.Fatalf("Days(%d, %d) is %d, %d, not %d", year, month, n, err, monthLong(year, month))
			}
		}
	}
	for year, want := range map[int]int{4: 29, 100: 28, 400: 29, 1900: 28, 2000: 29, 2023: 28, 2024: 29, 2100: 28, 9996: 29, 9999: 28} {
		if n, err := civil.Days(year, 2); n != want || err != api.OK {
			t.Errorf("Days(%d, 2) is %d, %d, not %d", year, n, err, want)
		}
	}
	for _, d := range noMonths {
		if n, err := civil.Days(d[0], d[1]); n != 0 || err != api.ErrRange {
			t.Errorf("Days(%d, %d) is %d, %d, not ErrRange", d[0], d[1], n, err)
		}
	}
}

func TestWeekdayTellsTheDayOfTheWeek(t *testing.T) { // 5.2
	for d, want := range map[[3]int]int{
		{1970, 1, 1}: 4, {2026, 11, 15}: 0, {2026, 11, 14}: 6, {2000, 2, 29}: 2, {1, 1, 1}: 1, {9999, 12, 31}: 5, {1582, 10, 10}: 0,
	} {
		if k, err := civil.Weekday(d[0], d[1], d[2]); k != want || err != api.OK {
			t.Errorf("Weekday(%v) is %d, %d, not %d", d, k, err, want)
		}
	}
	for _, d := range noMonths {
		if k, err := civil.Weekday(d[0], d[1], 1); k != 0 || err != api.ErrRange {
			t.Errorf("Weekday(%v, 1) is %d, %d, not ErrRange", d, k, err)
		}
	}
	for _, d := range noDays {
		if k, err := civil.Weekday(d[0], d[1], d[2]); k != 0 || err != api.ErrRange {
			t.Errorf("Weekday(%v) is %d, %d, not ErrRange", d, k, err)
		}
	}
}

func TestNthTellsTheDay(t *testing.T) { // 5.2
	for of, want := range map[[4]int]int{
		{2026, 3, 0, 5}:  29, // the fifth one
		{2026, 3, 0, 4}:  22,
		{2026, 10, 0, 5}: 25, // the fourth one
		{2026, 10, 0, 4}: 25,
		{2026, 3, 0, 2}:  8,
		{2026, 11, 0, 1}: 1,
		{2026, 11, 0, 5}: 29,
		{2026, 11, 1, 5}: 30,
		{2026, 11, 2, 5}: 24,
		{2026, 2, 0, 5}:  22, // 28 days: four of each
		{2026, 2, 6, 5}:  28,
		{2024, 2, 4, 5}:  29,
		{1, 1, 1, 1}:     1,
		{1, 1, 0, 1}:     7,
		{9999, 12, 5, 5}: 31,
		{9999, 12, 6, 5}: 25,
	} {
		if d, err := civil.Nth(of[0], of[1], of[2], of[3]); d != want || err != api.OK {
			t.Errorf("Nth(%v) is %d, %d, not %d", of, d, err, want)
		}
	}
}

func TestNthOfEachMonth(t *testing.T) { // 5.2
	var found [7][]int
	walk(func(d day) {
		if d.day == 1 {
			found = [7][]int{}
		}
		found[d.weekday] = append(found[d.weekday], d.day)
		if d.day < monthLong(d.year, d.month) {
			return
		}
		for weekday, l := range found {
			for n, want := range append(append([]int{}, l[:4]...), l[len(l)-1]) {
				if got, err := civil.Nth(d.year, d.month, weekday, n+1); got != want || err != api.OK {
					t.Fatalf("Nth(%d, %d, %d, %d) is %d, %d, not %d", d.year, d.month, weekday, n+1, got, err, want)
				}
			}
		}
	})
}

func TestNthTellsWhatIsWrong(t *testing.T) { // 5.2
	check := func(year, month, weekday, n int) {
		t.Helper()
		if d, err := civil.Nth(year, month, weekday, n); d != 0 || err != api.ErrRange {
			t.Errorf("Nth(%d, %d, %d, %d) is %d, %d, not ErrRange", year, month, weekday, n, d, err)
		}
	}
	for _, d := range noMonths {
		check(d[0], d[1], 0, 1)
	}
	for _, weekday := range []int{-1, 7, 8, -7, math.MaxInt, math.MinInt} {
		check(2026, 3, weekday, 1)
	}
	for _, n := range []int{0, 6, -1, 7, math.MaxInt, math.MinInt} {
		check(2026, 3, 0, n)
	}
}

func TestWeekTellsTheMinute(t *testing.T) { // 5.2
	for at, want := range map[int64]int{
		0:                     5760,
		59:                    5760,
		60:                    5761,
		-1:                    5759,
		-60:                   5759,
		-61:                   5758,
		3*86400 - 1:           10079, // Saturday, 23:59:59
		3 * 86400:             0,
		3*86400 + 59:          0,
		3*86400 + 60:          1,
		-4 * 86400:            0,
		-4*86400 - 1:          10079,
		api.MinTime:           1440, // a Monday
		api.MinTime + 6*86400: 0,
		api.MaxTime:           5*1440 + 1439, // a Friday
		1795000000:            3*1440 + 11*60 + 6,
	} {
		if n, err := civil.Week(at); n != want || err != api.OK {
			t.Errorf("Week(%d) is %d, %d, not %d", at, n, err, want)
		}
	}
	for _, at := range someTimes() {
		m := model(at)
		want := m.Weekday*1440 + m.Hour*60 + m.Minute
		if n, err := civil.Week(at); n != want || err != api.OK {
			t.Fatalf("Week(%d) is %d, %d, not %d", at, n, err, want)
		}
	}
	for _, at := range noTimes {
		if n, err := civil.Week(at); n != 0 || err != api.ErrRange {
			t.Errorf("Week(%d) is %d, %d, not ErrRange", at, n, err)
		}
	}
}

func TestAnswersAreNewMemory(t *testing.T) { // 5.3
	for _, at := range someTimes() {
		m, _ := civil.Of(at)
		was := m
		m.Year, m.Month, m.Day = 7, 7, 7
		if again, err := civil.Of(at); again != was || err != api.OK {
			t.Fatalf("Of(%d) is %v, %d, and was %v", at, again, err, was)
		}
	}
}

func TestMomentsHaveTheirTimes(t *testing.T) { // 5.4
	for _, at := range someTimes() {
		m, err := civil.Of(at)
		if err != api.OK {
			t.Fatalf("Of(%d): error %d", at, err)
		}
		if back, err := civil.Time(m); back != at || err != api.OK {
			t.Fatalf("the time of %v is %d, %d, not %d", m, back, err, at)
		}
		if k, err := civil.Weekday(m.Year, m.Month, m.Day); k != m.Weekday || err != api.OK {
			t.Fatalf("the weekday of %v is %d, %d", m, k, err)
		}
	}
}

func TestTheWeekGoesOn(t *testing.T) { // 5.5
	for _, at := range someTimes() {
		n, err := civil.Week(at)
		if err != api.OK || n < 0 || n >= api.WeekLong {
			t.Fatalf("Week(%d) is %d, %d", at, n, err)
		}
		if at+60 <= api.MaxTime {
			if next, err := civil.Week(at + 60); next != (n+1)%api.WeekLong || err != api.OK {
				t.Fatalf("a minute behind %d, at %d, it is %d, %d", at, n, next, err)
			}
		}
		if at+7*86400 <= api.MaxTime {
			if next, err := civil.Week(at + 7*86400); next != n || err != api.OK {
				t.Fatalf("a week behind %d, at %d, it is %d, %d", at, n, next, err)
			}
		}
	}
}
