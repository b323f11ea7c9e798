package week_test

import (
	"math"
	"math/rand"
	"slices"
	"testing"

	"bellman/api"
	"bellman/week"
)

// noMinutes are numbers that are no minutes of a week.
var noMinutes = []int{-1, 10080, 10081, -10080, math.MinInt, math.MaxInt}

// set is what minutes there are, each on its own.
type set [10080]bool

// setOf is the set of the minutes of ranges; one whose From is above its To goes on from the week's beginning.
func setOf(l []api.Range) *set {
	s := &set{}
	for _, r := range l {
		for m := range s {
			in := r.From <= m && m < r.To
			if r.From > r.To {
				in = r.From <= m || m < r.To
			}
			s[m] = s[m] || in
		}
	}
	return s
}

// ranges is the set as a right week, but for how many ranges it has.
func (s *set) ranges() []api.Range {
	var w []api.Range
	for m, in := range s {
		if !in {
			continue
		}
		if m == 0 || !s[m-1] {
			w = append(w, api.Range{From: m})
		}
		w[len(w)-1].To = m + 1
	}
	return w
}

// many is how many minutes the set has.
func (s *set) many() int {
	n := 0
	for _, in := range s {
		if in {
			n++
		}
	}
	return n
}

// of is the set of the minutes of which a tells it, or a and b do.
func of(a, b *set, tell func(a, b bool) bool) *set {
	s := &set{}
	for m := range s {
		s[m] = tell(a[m], b[m])
	}
	return s
}

// comb is a week of so many ranges: each is long, the gaps are wide, the first begins at from.
func comb(many, from, long, wide int) []api.Range {
	var w []api.Range
	for i := range many {
		at := from + i*(long+wide)
		w = append(w, api.Range{From: at, To: at + long})
	}
	return w
}

// toEnd is the week with its last range going on to the week's end.
func toEnd(w []api.Range) []api.Range {
	w = slices.Clone(w)
	w[len(w)-1].To = api.WeekLong
	return w
}

// chance is a right week of any ranges, at most so many.
func chance(r *rand.Rand, most int) []api.Range {
	edges := r.Perm(10081)[:2*r.Intn(most+1)]
	slices.Sort(edges)
	var w []api.Range
	for i := 1; i < len(edges); i += 2 {
		w = append(w, api.Range{From: edges[i-1], To: edges[i]})
	}
	return w
}

// right are right weeks: none of a minute, all of them, the week's ends, as many ranges as there may be, and any others.
func right() [][]api.Range {
	all := [][]api.Range{
		nil,
		{},
		{{From: 0, To: 10080}},
		{{From: 0, To: 1}},
		{{From: 10079, To: 10080}},
		{{From: 0, To: 1}, {From: 10079, To: 10080}},
		{{From: 1, To: 10079}},
		{{From: 1, To: 10080}},
		{{From: 0, To: 10079}},
		{{From: 5000, To: 5001}},
		{{From: 0, To: 5000}, {From: 5001, To: 10080}},
		{{From: 0, To: 420}, {From: 1320, To: 1860}, {From: 2760, To: 3300}},
		comb(64, 0, 1, 1),
		comb(64, 1, 1, 1),
		comb(64, 7, 100, 50),
		toEnd(comb(64, 0, 100, 50)),
		toEnd(comb(64, 3, 100, 50)),
		toEnd(comb(63, 3, 100, 50)),
		comb(63, 1, 20, 30),
	}
	r := rand.New(rand.NewSource(7))
	for _, most := range []int{1, 2, 3, 5, 10, 40, 64, 64} {
		all = append(all, chance(r, most), chance(r, most))
	}
	return all
}

// wrong are weeks that are not right.
func wrong() map[string][]api.Range {
	return map[string][]api.Range{
		"empty, at the beginning":     {{}},
		"empty":                       {{From: 7, To: 7}},
		"empty, at the end":           {{From: 10080, To: 10080}},
		"an empty one behind":         {{From: 7, To: 8}, {From: 9, To: 9}},
		"the wrong way":               {{From: 8, To: 7}},
		"goes on behind the end":      {{From: 10000, To: 60}},
		"From below 0":                {{From: -1, To: 5}},
		"From far below 0":            {{From: math.MinInt, To: 5}},
		"both below 0":                {{From: -5, To: -1}},
		"To behind the end":           {{From: 5, To: 10081}},
		"To far behind the end":       {{From: 5, To: math.MaxInt}},
		"both behind the end":         {{From: 10081, To: 10082}},
		"of all numbers":              {{From: math.MinInt, To: math.MaxInt}},
		"touching":                    {{From: 5, To: 10}, {From: 10, To: 20}},
		"sharing a minute":            {{From: 5, To: 11}, {From: 10, To: 20}},
		"twice the same":              {{From: 5, To: 10}, {From: 5, To: 10}},
		"falling":                     {{From: 20, To: 30}, {From: 5, To: 10}},
		"one within another":          {{From: 5, To: 30}, {From: 10, To: 20}},
		"the third touches":           {{From: 5, To: 10}, {From: 11, To: 20}, {From: 20, To: 21}},
		"the second from below 0":     {{From: 5, To: 10}, {From: -1, To: 20}},
		"the second behind the end":   {{From: 5, To: 10}, {From: 11, To: 10081}},
		"one range too many":          comb(65, 0, 1, 1),
		"twice as many ranges":        comb(128, 0, 1, 1),
		"all ranges there could be":   comb(5040, 0, 1, 1),
		"the last of 64 goes too far": append(comb(63, 0, 1, 1), api.Range{From: 200, To: 10081}),
	}
}

func TestCheckTellsWhatIsRight(t *testing.T) { // 7.1
	for _, w := range right() {
		if err := week.Check(w); err != api.OK {
			t.Errorf("Check(%v) is %d", w, err)
		}
	}
}

func TestCheckTellsWhatIsWrong(t *testing.T) { // 7.1
	for name, w := range wrong() {
		if err := week.Check(w); err != api.ErrForm {
			t.Errorf("%s: Check is %d, not ErrForm", name, err)
		}
	}
}

func TestTheOthersCheckFirst(t *testing.T) { // 7.1
	for name, w := range wrong() {
		for _, minute := range append([]int{0, 10}, noMinutes...) {
			if is, err := week.Has(w, minute); is || err != api.ErrForm {
				t.Errorf("%s: Has(%d) is %t, %d, not ErrForm", name, minute, is, err)
			}
			for _, in := range []bool{true, false} {
				if n, err := week.Next(w, minute, in); n != 0 || err != api.ErrForm {
					t.Errorf("%s: Next(%d, %t) is %d, %d, not ErrForm", name, minute, in, n, err)
				}
			}
		}
		if l, err := week.Not(w); len(l) != 0 || err != api.ErrForm {
			t.Errorf("%s: Not is %v, %d, not ErrForm", name, l, err)
		}
		if n, err := week.Sum(w); n != 0 || err != api.ErrForm {
			t.Errorf("%s: Sum is %d, %d, not ErrForm", name, n, err)
		}
		other := []api.Range{{From: 5, To: 30}}
		for _, pair := range [][2][]api.Range{{w, other}, {other, w}, {w, w}, {w, nil}, {nil, w}} {
			if l, err := week.And(pair[0], pair[1]); len(l) != 0 || err != api.ErrForm {
				t.Errorf("%s: And is %v, %d, not ErrForm", name, l, err)
			}
			if l, err := week.Or(pair[0], pair[1]); len(l) != 0 || err != api.ErrForm {
				t.Errorf("%s: Or is %v, %d, not ErrForm", name, l, err)
			}
		}
	}
}

func TestMakeOfPlainRanges(t *testing.T) { // 7.1
	type l = []api.Range
	for _, c := range []struct {
		from, want l
	}{
		{nil, nil},
		{l{{From: 600, To: 60}}, l{{From: 0, To: 60}, {From: 600, To: 10080}}},
		{l{{From: 60, To: 600}}, l{{From: 60, To: 600}}},
		{l{{From: 0, To: 10080}}, l{{From: 0, To: 10080}}},
		{l{{From: 10080, To: 0}}, nil},
		{l{{From: 10080, To: 5}}, l{{From: 0, To: 5}}},
		{l{{From: 5, To: 0}}, l{{From: 5, To: 10080}}},
		{l{{From: 1, To: 0}}, l{{From: 1, To: 10080}}},
		{l{{From: 8, To: 7}}, l{{From: 0, To: 7}, {From: 8, To: 10080}}},
		{l{{}, {From: 7, To: 7}, {From: 10080, To: 10080}}, nil},
		{l{{From: 5, To: 10}, {From: 10, To: 20}}, l{{From: 5, To: 20}}},
		{l{{From: 10, To: 20}, {From: 5, To: 10}}, l{{From: 5, To: 20}}},
		{l{{From: 5, To: 10}, {From: 11, To: 20}}, l{{From: 5, To: 10}, {From: 11, To: 20}}},
		{l{{From: 11, To: 20}, {From: 5, To: 10}}, l{{From: 5, To: 10}, {From: 11, To: 20}}},
		{l{{From: 5, To: 30}, {From: 10, To: 20}}, l{{From: 5, To: 30}}},
		{l{{From: 5, To: 10}, {From: 5, To: 30}}, l{{From: 5, To: 30}}},
		{l{{From: 5, To: 30}, {From: 5, To: 10}, {From: 30, To: 31}}, l{{From: 5, To: 31}}},
		{l{{From: 5, To: 5}, {From: 5, To: 6}, {From: 6, To: 6}}, l{{From: 5, To: 6}}},
		{l{{From: 10000, To: 60}, {From: 9000, To: 10}}, l{{From: 0, To: 60}, {From: 9000, To: 10080}}},
		{l{{From: 600, To: 60}, {From: 60, To: 600}}, l{{From: 0, To: 10080}}},
		{l{{From: 600, To: 60}, {From: 60, To: 599}}, l{{From: 0, To: 599}, {From: 600, To: 10080}}},
	} {
		if w, err := week.Make(c.from...); !slices.Equal(w, c.want) || err != api.OK {
			t.Errorf("Make(%v) is %v, %d, not %v", c.from, w, err, c.want)
		}
	}
}

func TestMakeHasJustTheirMinutes(t *testing.T) { // 7.1
	r := rand.New(rand.NewSource(71))
	edge := []int{0, 1, 2, 5000, 10078, 10079, 10080}
	for i := range 1500 {
		var l []api.Range
		for range r.Intn(1 + i%65) {
			from, to := r.Intn(10081), r.Intn(10081)
			switch r.Intn(4) {
			case 0:
				from, to = edge[r.Intn(7)], edge[r.Intn(7)]
			case 1, 2:
				to = min(from+r.Intn(100), 10080)
			}
			l = append(l, api.Range{From: from, To: to})
		}
		want, wantErr := setOf(l).ranges(), api.OK
		if len(want) > 64 {
			want, wantErr = nil, api.ErrLong
		}
		w, err := week.Make(l...)
		if !slices.Equal(w, want) || err != wantErr {
			t.Fatalf("Make(%v) is %v, %d, not %v, %d", l, w, err, want, wantErr)
		}
		if err := week.Check(w); err != api.OK {
			t.Fatalf("Make(%v) is not right: %d", l, err)
		}
	}
}

func TestMakeOfARightWeekIsIt(t *testing.T) { // 7.1
	for _, w := range right() {
		l := slices.Clone(w)
		slices.Reverse(l)
		if m, err := week.Make(l...); !slices.Equal(m, w) || err != api.OK {
			t.Errorf("Make(%v) is %v, %d", l, m, err)
		}
	}
}

func TestMakeRefusesNumbersThatAreNone(t *testing.T) { // 7.1
	for _, n := range []int{-1, 10081, -10080, 20160, math.MinInt, math.MaxInt} {
		for _, bad := range []api.Range{{From: n}, {To: n}, {From: n, To: n}, {From: n, To: 10080}, {From: 10080, To: n}} {
			for _, many := range []int{0, 1, 63, 64, 1000} {
				for _, at := range []int{0, many / 2, many} {
					l := slices.Insert(comb(many, 0, 1, 1), at, bad)
					if w, err := week.Make(l...); len(w) != 0 || err != api.ErrRange {
						t.Errorf("Make of %v as the %d. of %d is %v, %d, not ErrRange", bad, at, many+1, w, err)
					}
				}
			}
		}
	}
}

func TestMakeTellsWhatIsTooLong(t *testing.T) { // 7.1
	for name, l := range map[string][]api.Range{
		"65 ranges":                  comb(65, 0, 1, 1),
		"65 of a minute":             make([]api.Range, 65),
		"65 that are one":            comb(65, 0, 10, 0),
		"65 times the same":          slices.Repeat([]api.Range{{From: 5, To: 9}}, 65),
		"5040 ranges":                comb(5040, 0, 1, 1),
		"64, and one goes on behind": append(comb(63, 10, 1, 1), api.Range{From: 10000, To: 5}),
	} {
		if w, err := week.Make(l...); len(w) != 0 || err != api.ErrLong {
			t.Errorf("%s: Make is %v, %d, not ErrLong", name, w, err)
		}
	}
	for name, l := range map[string][]api.Range{
		"64 ranges":                    comb(64, 0, 1, 1),
		"64 of no minute":              make([]api.Range, 64),
		"64 times the same":            slices.Repeat([]api.Range{{From: 5, To: 9}}, 64),
		"63, and one goes on behind":   append(comb(62, 10, 1, 1), api.Range{From: 10000, To: 5}),
		"64, one up to the first one":  append(comb(63, 10, 1, 1), api.Range{From: 10000, To: 10}),
		"64, one from the last one on": append(comb(63, 10, 1, 1), api.Range{From: 135, To: 5}),
		"64, one up to the week's end": append(comb(63, 10, 1, 1), api.Range{From: 10000, To: 0}),
	} {
		if w, err := week.Make(l...); !slices.Equal(w, setOf(l).ranges()) || err != api.OK {
			t.Errorf("%s: Make is %v, %d", name, w, err)
		}
	}
}

func TestHasTellsOfEachMinute(t *testing.T) { // 7.2
	for _, w := range right() {
		s := setOf(w)
		for m, want := range s {
			if is, err := week.Has(w, m); is != want || err != api.OK {
				t.Fatalf("Has(%v, %d) is %t, %d", w, m, is, err)
			}
		}
	}
}

func TestNoMinutesAreRefused(t *testing.T) { // 7.2
	for _, w := range right() {
		for _, m := range noMinutes {
			if is, err := week.Has(w, m); is || err != api.ErrRange {
				t.Errorf("Has(%v, %d) is %t, %d, not ErrRange", w, m, is, err)
			}
			for _, in := range []bool{true, false} {
				if n, err := week.Next(w, m, in); n != 0 || err != api.ErrRange {
					t.Errorf("Next(%v, %d, %t) is %d, %d, not ErrRange", w, m, in, n, err)
				}
			}
		}
	}
}

// holds tells whether the answer is the set as a right week, or ErrLong, if it would have too many ranges.
func holds(w []api.Range, err api.Errno, s *set) bool {
	want := s.ranges()
	if len(want) > 64 {
		return len(w) == 0 && err == api.ErrLong
	}
	return slices.Equal(w, want) && err == api.OK && week.Check(w) == api.OK
}

func TestNotAndOrAreOfSets(t *testing.T) { // 7.2, 7.4
	all := right()
	var sets []*set
	for _, w := range all {
		sets = append(sets, setOf(w))
	}
	for i, a := range all {
		if w, err := week.Not(a); !holds(w, err, of(sets[i], sets[i], func(a, _ bool) bool { return !a })) {
			t.Errorf("Not(%v) is %v, %d", a, w, err)
		}
		for j, b := range all {
			if w, err := week.And(a, b); !holds(w, err, of(sets[i], sets[j], func(a, b bool) bool { return a && b })) {
				t.Errorf("And(%v, %v) is %v, %d", a, b, w, err)
			}
			if w, err := week.Or(a, b); !holds(w, err, of(sets[i], sets[j], func(a, b bool) bool { return a || b })) {
				t.Errorf("Or(%v, %v) is %v, %d", a, b, w, err)
			}
		}
	}
}

func TestNotAndOrTellWhatIsTooLong(t *testing.T) { // 7.2
	for name, w := range map[string][]api.Range{
		"from 1 on":           comb(64, 1, 1, 1),
		"up to 1 ahead":       append(comb(63, 1, 1, 1), api.Range{From: 10000, To: 10079}),
		"in the week's midst": comb(64, 1000, 7, 9),
	} {
		if l, err := week.Not(w); len(l) != 0 || err != api.ErrLong {
			t.Errorf("%s: Not is %v, %d, not ErrLong", name, l, err)
		}
	}
	for name, w := range map[string][]api.Range{
		"from the beginning": comb(64, 0, 1, 1),
		"to the end":         toEnd(comb(64, 1, 1, 1)),
	} {
		if l, err := week.Not(w); len(l) != 64 || err != api.OK {
			t.Errorf("%s: Not is %v, %d", name, l, err)
		}
	}
	// Each gap of the one is within a range of the other: 64 and 64 ranges share 127.
	a, b := comb(64, 0, 100, 50), comb(64, 75, 100, 50)
	if l, err := week.And(a, b); len(l) != 0 || err != api.ErrLong {
		t.Errorf("And of 64 and 64 is %v, %d, not ErrLong", l, err)
	}
	one := []api.Range{{From: 0, To: 10050}}
	if l, err := week.And(a, one); len(l) != 64 || err != api.OK {
		t.Errorf("And of 64 and one is %v, %d", l, err)
	}
	if l, err := week.Or(comb(64, 0, 1, 3), comb(64, 2, 1, 3)); len(l) != 0 || err != api.ErrLong {
		t.Errorf("Or of 64 and 64 is %v, %d, not ErrLong", l, err)
	}
	if l, err := week.Or(comb(64, 0, 1, 3), []api.Range{{From: 10000, To: 10001}}); len(l) != 0 || err != api.ErrLong {
		t.Errorf("Or of 64 and one is %v, %d, not ErrLong", l, err)
	}
	if l, err := week.Or(comb(64, 0, 1, 3), comb(64, 1, 3, 1)); !slices.Equal(l, []api.Range{{From: 0, To: 256}}) || err != api.OK {
		t.Errorf("Or of 64 and what is between is %v, %d", l, err)
	}
}

func TestSumTellsHowManyMinutes(t *testing.T) { // 7.2
	for _, w := range right() {
		if n, err := week.Sum(w); n != setOf(w).many() || err != api.OK {
			t.Errorf("Sum(%v) is %d, %d", w, n, err)
		}
	}
	if n, err := week.Sum([]api.Range{{From: 0, To: 10080}}); n != 10080 || err != api.OK {
		t.Errorf("Sum of all minutes is %d, %d", n, err)
	}
}

func TestNextTellsHowFarOn(t *testing.T) { // 7.2
	for _, w := range right() {
		s := setOf(w)
		for _, in := range []bool{true, false} {
			// on is how far the first such minute is, reckoned from the week's end, gone through twice.
			on, found := 0, false
			for m := 2*10080 - 1; m >= 0; m-- {
				on++
				if s[m%10080] == in {
					on, found = 0, true
				}
				if m >= 10080 {
					continue
				}
				want, wantErr := on, api.OK
				if !found {
					want, wantErr = 0, api.ErrNone
				}
				if n, err := week.Next(w, m, in); n != want || err != wantErr {
					t.Fatalf("Next(%v, %d, %t) is %d, %d, not %d, %d", w, m, in, n, err, want, wantErr)
				}
			}
		}
	}
}

func TestNextGoesOnBehindTheEnd(t *testing.T) { // 7.2
	for _, c := range []struct {
		w      []api.Range
		minute int
		in     bool
		want   int
	}{
		{[]api.Range{{From: 0, To: 1}}, 1, true, 10079},
		{[]api.Range{{From: 0, To: 1}}, 10079, true, 1},
		{[]api.Range{{From: 5, To: 9}}, 9, true, 10076},
		{[]api.Range{{From: 5, To: 9}}, 8, true, 0},
		{[]api.Range{{From: 5, To: 9}}, 8, false, 1},
		{[]api.Range{{From: 0, To: 420}, {From: 10000, To: 10080}}, 10000, false, 500},
		{[]api.Range{{From: 0, To: 420}, {From: 10000, To: 10080}}, 10079, false, 421},
		{[]api.Range{{From: 1, To: 10080}}, 1, false, 10079},
		{comb(64, 1, 1, 1), 2, false, 0},
		{comb(64, 1, 1, 1), 1, false, 1},
		{comb(64, 1, 1, 1), 127, false, 1},
	} {
		if n, err := week.Next(c.w, c.minute, c.in); n != c.want || err != api.OK {
			t.Errorf("Next(%v, %d, %t) is %d, %d, not %d", c.w, c.minute, c.in, n, err, c.want)
		}
	}
}

// roomy is the list with room behind it, and what that room has.
func roomy(l []api.Range) ([]api.Range, []api.Range) {
	room := append(slices.Clone(l), slices.Repeat([]api.Range{{From: -7, To: -8}}, 200)...)
	return room[:len(l)], room[len(l):]
}

func TestWhatIsHandedInStaysAsItIs(t *testing.T) { // 7.3
	for _, was := range append(right(), []api.Range{{From: 600, To: 60}, {From: 7, To: 7}, {From: 20, To: 30}, {From: 5, To: 20}}) {
		w, behind := roomy(was)
		week.Check(w)
		for range 2 {
			for _, call := range []func() ([]api.Range, api.Errno){
				func() ([]api.Range, api.Errno) { return week.Make(w...) },
				func() ([]api.Range, api.Errno) { return week.Not(w) },
				func() ([]api.Range, api.Errno) { return week.And(w, w) },
				func() ([]api.Range, api.Errno) { return week.And(w, []api.Range{{From: 0, To: 10080}}) },
				func() ([]api.Range, api.Errno) { return week.Or(w, w) },
				func() ([]api.Range, api.Errno) { return week.Or(w, nil) },
				func() ([]api.Range, api.Errno) { return week.Or(nil, w) },
				func() ([]api.Range, api.Errno) { return week.Or(w, []api.Range{{From: 3, To: 9}}) },
			} {
				l, _ := call()
				again, _ := call()
				for i := range l {
					l[i] = api.Range{From: -1, To: -2}
				}
				_ = append(l, api.Range{From: -3, To: -4})
				if slices.ContainsFunc(again, func(r api.Range) bool { return r.From < 0 }) {
					t.Fatalf("%v: two answers share memory", was)
				}
			}
			week.Has(w, 5)
			week.Sum(w)
			week.Next(w, 5, true)
			week.Next(w, 5, false)
			if !slices.Equal(w, was) {
				t.Fatalf("%v is %v behind the calls", was, w)
			}
			if slices.ContainsFunc(behind, func(r api.Range) bool { return r != api.Range{From: -7, To: -8} }) {
				t.Fatalf("%v: the room behind it is changed", was)
			}
		}
	}
}

func TestTheLawsOfSets(t *testing.T) { // 7.4
	not := func(w []api.Range) []api.Range {
		l, err := week.Not(w)
		if err != api.OK {
			t.Fatalf("Not(%v) is %d", w, err)
		}
		return l
	}
	and := func(a, b []api.Range) []api.Range {
		l, err := week.And(a, b)
		if err != api.OK {
			t.Fatalf("And(%v, %v) is %d", a, b, err)
		}
		return l
	}
	or := func(a, b []api.Range) []api.Range {
		l, err := week.Or(a, b)
		if err != api.OK {
			t.Fatalf("Or(%v, %v) is %d", a, b, err)
		}
		return l
	}
	same := func(law string, a, b []api.Range) {
		t.Helper()
		if !slices.Equal(a, b) {
			t.Errorf("%s: %v and %v", law, a, b)
		}
	}
	all := []api.Range{{From: 0, To: 10080}}
	r := rand.New(rand.NewSource(74))
	for range 300 {
		a, b, c := chance(r, 20), chance(r, 20), chance(r, 20)
		same("twice not", not(not(a)), a)
		same("and, with what it has not", and(a, not(a)), nil)
		same("or, with what it has not", or(a, not(a)), all)
		same("not of and", not(and(a, b)), or(not(a), not(b)))
		same("not of or", not(or(a, b)), and(not(a), not(b)))
		same("and, the other way", and(a, b), and(b, a))
		same("or, the other way", or(a, b), or(b, a))
		same("and over or", and(a, or(b, c)), or(and(a, b), and(a, c)))
		same("and with all", and(a, all), a)
		same("or with none", or(a, nil), a)
	}
	for _, w := range right() {
		if l, err := week.Not(w); err == api.OK {
			same("twice not", not(l), w)
		}
	}
}
