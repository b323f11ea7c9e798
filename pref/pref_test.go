package pref_test

import (
	"fmt"
	"math"
	"slices"
	"strings"
	"testing"

	"bellman/api"
	"bellman/pref"
)

const maxCount = 1 << 40

var (
	channels   = []api.Channel{1, 2, 3}
	noChannels = []api.Channel{4, 5, 17, 127, 128, 254, 255}
	noNames    = []string{"", "A", "Ann", "1a", "_a", "a.b", "a b", "a-b", " a", "a ", "é", "a\x00", "any\n", strings.Repeat("a", 33), strings.Repeat("a", 100000)}
	names      = []string{"a", "z", "a0", "a_", "ab", "ann", "x9_", strings.Repeat("z", 32)}
)

// night are quiet hours in Berlin.
func night() api.Quiet {
	return api.Quiet{
		Zone: api.Zone{Base: 60, Save: 60, From: api.Switch{Month: 3, Nth: 5, Minute: 120}, To: api.Switch{Month: 10, Nth: 5, Minute: 180}},
		Week: []api.Range{{From: 0, To: 420}, {From: 1320, To: 1860}},
	}
}

// quiets are right quiet hours.
func quiets() []api.Quiet {
	return []api.Quiet{
		{},
		{Week: []api.Range{}},
		night(),
		{Zone: api.Zone{Base: -900}, Week: []api.Range{{From: 0, To: 10080}}},
		{Zone: api.Zone{Base: 900}},
	}
}

// noQuiets are quiet hours that are not right.
func noQuiets() []api.Quiet {
	return []api.Quiet{
		{Zone: api.Zone{Base: 901}},
		{Zone: api.Zone{Save: 60}},
		{Week: []api.Range{{}}},
		{Week: []api.Range{{From: 5, To: 10081}}},
		{Zone: night().Zone, Week: []api.Range{{From: 0, To: 60}, {From: 60, To: 120}}},
		{Week: make([]api.Range, 65)},
	}
}

// universe are all outs of any category, of a and of b, rising.
func universe() []api.Out {
	var all []api.Out
	for _, category := range []string{"", "a", "b"} {
		for c := range api.Channel(4) {
			all = append(all, api.Out{Category: category, Channel: c})
		}
	}
	return all
}

// subset are the outs of the universe that the bits tell.
func subset(bits int) []api.Out {
	var some []api.Out
	for i, o := range universe() {
		if bits>>i&1 == 1 {
			some = append(some, o)
		}
	}
	return some
}

// many are so many outs, rising.
func many(n int) []api.Out {
	var l []api.Out
	for i := range n {
		l = append(l, api.Out{Category: fmt.Sprintf("c%02d", i/4), Channel: api.Channel(i % 4)})
	}
	return l
}

// noOuts are outs that are not right.
func noOuts() []api.Out {
	var all []api.Out
	for _, name := range noNames[1:] {
		all = append(all, api.Out{Category: name}, api.Out{Category: name, Channel: 2})
	}
	for _, c := range noChannels {
		all = append(all, api.Out{Channel: c}, api.Out{Category: "a", Channel: c}, api.Out{Category: "A", Channel: c})
	}
	return all
}

// told is something as a text; nil and empty lists are told alike.
func told(of ...any) string {
	return fmt.Sprintf("%+v", of)
}

// copied is u in new memory.
func copied(u api.User) api.User {
	u.Name = strings.Clone(u.Name)
	u.Quiet.Week = append([]api.Range{}, u.Quiet.Week...)
	var outs []api.Out
	for _, o := range u.Outs {
		outs = append(outs, api.Out{Category: strings.Clone(o.Category), Channel: o.Channel})
	}
	u.Outs = outs
	return u
}

// rights are right users, each edge among them.
func rights() []api.User {
	all := []api.User{
		{Name: "ann"},
		{Name: "ann", Version: 1},
		{Name: "ann", Version: maxCount},
		{Name: "ann", Version: maxCount - 1, Quiet: night(), Outs: many(32)},
		{Name: "ann", Outs: []api.Out{}},
		{Name: "ann", Outs: many(31)},
		{Name: "ann", Outs: universe()},
		{Name: "ann", Outs: []api.Out{{}}},
		{Name: "ann", Outs: []api.Out{{Category: "a", Channel: 3}, {Category: "a0", Channel: 1}, {Category: "a_"}, {Category: "aa", Channel: 2}, {Category: "b"}}},
	}
	for _, name := range names {
		all = append(all, api.User{Name: name, Outs: []api.Out{{Category: name, Channel: 3}}})
	}
	for _, q := range quiets() {
		all = append(all, api.User{Name: "bob", Version: 7, Quiet: q, Outs: many(3)})
	}
	return all
}

// wrongs are users that are not right, each by one thing.
func wrongs() map[string]api.User {
	all := map[string]api.User{
		"nothing":            {},
		"below the versions": {Name: "ann", Version: -1},
		"far below them":     {Name: "ann", Version: math.MinInt64},
		"above the versions": {Name: "ann", Version: maxCount + 1},
		"far above them":     {Name: "ann", Version: math.MaxInt64},
		"33 outs":            {Name: "ann", Outs: many(33)},
		"many outs":          {Name: "ann", Outs: many(300)},
		"one out twice":      {Name: "ann", Outs: []api.Out{{Category: "a", Channel: 1}, {Category: "a", Channel: 1}}},
		"all twice":          {Name: "ann", Outs: []api.Out{{}, {}}},
		"fall by category":   {Name: "ann", Outs: []api.Out{{Category: "b"}, {Category: "a"}}},
		"any behind one":     {Name: "ann", Outs: []api.Out{{Category: "a", Channel: 1}, {Channel: 2}}},
		"fall by channel":    {Name: "ann", Outs: []api.Out{{Category: "a", Channel: 2}, {Category: "a", Channel: 1}}},
		"any channel behind": {Name: "ann", Outs: []api.Out{{Channel: 1}, {}}},
		"fall at the end":    {Name: "ann", Outs: append(many(20), api.Out{Category: "c00", Channel: 1})},
		"fall by letters":    {Name: "ann", Outs: []api.Out{{Category: "aa"}, {Category: "a_"}}},
		"by channel first":   {Name: "ann", Outs: []api.Out{{Category: "b", Channel: 1}, {Category: "a", Channel: 2}}},
	}
	for i, name := range noNames {
		all[fmt.Sprint("no name ", i)] = api.User{Name: name}
	}
	for i, q := range noQuiets() {
		all[fmt.Sprint("no quiet hours ", i)] = api.User{Name: "ann", Quiet: q}
	}
	for i, o := range noOuts() {
		all[fmt.Sprint("a wrong out ", i)] = api.User{Name: "ann", Outs: []api.Out{o}}
	}
	for _, c := range noChannels {
		all[fmt.Sprint("a wrong channel at the end ", c)] = api.User{Name: "ann", Outs: append(many(8), api.Out{Category: "c01", Channel: c})}
	}
	return all
}

func TestCheckTellsWhatIsRight(t *testing.T) { // 17.1
	for _, u := range rights() {
		if err := pref.Check(u); err != api.OK {
			t.Errorf("Check of %v is %d", u, err)
		}
	}
	for name, u := range wrongs() {
		if err := pref.Check(u); err != api.ErrForm {
			t.Errorf("%s: Check is %d, not ErrForm", name, err)
		}
	}
}

func TestCheckTellsOfAllPairsAndTriplesOfOuts(t *testing.T) { // 17.1
	all := append(universe(), api.Out{Category: "B"}, api.Out{Category: "a", Channel: 4})
	right := len(universe())
	for i, a := range all {
		for j, b := range all {
			for k, c := range all {
				want := api.ErrForm
				if i < j && j < k && k < right {
					want = api.OK
				}
				if err := pref.Check(api.User{Name: "ann", Outs: []api.Out{a, b, c}}); err != want {
					t.Fatalf("Check with %v, %v, %v is %d, not %d", a, b, c, err, want)
				}
			}
			want := api.ErrForm
			if i < j && j < right {
				want = api.OK
			}
			if err := pref.Check(api.User{Name: "ann", Outs: []api.Out{a, b}}); err != want {
				t.Fatalf("Check with %v, %v is %d, not %d", a, b, err, want)
			}
		}
	}
}

func TestAllCheckFirst(t *testing.T) { // 17.2
	for name, u := range wrongs() {
		for _, c := range append(channels, 0, 4, 255) {
			if is, err := pref.Wants(u, "a", c); is || err != api.ErrForm {
				t.Errorf("%s: Wants is %v, %d, not ErrForm", name, is, err)
			}
		}
		for _, o := range append(universe(), api.Out{Category: "A"}) {
			if got, err := pref.Off(u, o); told(got) != told(api.User{}) || err != api.ErrForm {
				t.Errorf("%s: Off is %v, %d, not ErrForm", name, got, err)
			}
			if got, err := pref.On(u, o); told(got) != told(api.User{}) || err != api.ErrForm {
				t.Errorf("%s: On is %v, %d, not ErrForm", name, got, err)
			}
		}
		for _, q := range append(quiets(), noQuiets()...) {
			if got, err := pref.Hours(u, q); told(got) != told(api.User{}) || err != api.ErrForm {
				t.Errorf("%s: Hours is %v, %d, not ErrForm", name, got, err)
			}
		}
	}
}

func TestMakeTellsANewUser(t *testing.T) { // 17.1
	for _, name := range names {
		for _, q := range quiets() {
			want := api.User{Name: name, Quiet: q}
			if u, err := pref.Make(name, q); told(u) != told(want) || err != api.OK {
				t.Errorf("Make(%s, %v) is %v, %d", name, q, u, err)
			}
		}
		for _, q := range noQuiets() {
			if u, err := pref.Make(name, q); told(u) != told(api.User{}) || err != api.ErrForm {
				t.Errorf("Make(%s, %v) is %v, %d, not ErrForm", name, q, u, err)
			}
		}
	}
	for _, name := range noNames {
		// No name is told ahead of wrong quiet hours.
		for _, q := range append(quiets(), noQuiets()...) {
			if u, err := pref.Make(name, q); told(u) != told(api.User{}) || err != api.ErrName {
				t.Errorf("Make(%.40q, %v) is %v, %d, not ErrName", name, q, u, err)
			}
		}
	}
}

// wanted tells whether no one of the outs is of the category by the channel.
func wanted(outs []api.Out, category string, c api.Channel) bool {
	for _, o := range []api.Out{{}, {Channel: c}, {Category: category}, {Category: category, Channel: c}} {
		if slices.Contains(outs, o) {
			return false
		}
	}
	return true
}

func TestExampleOfTheChapter(t *testing.T) { // 17.2
	u, _ := pref.Make("ann", night())
	u, err := pref.Off(u, api.Out{Category: "news"})
	if err != api.OK || len(u.Outs) != 1 {
		t.Fatalf("Off is %v, %d", u, err)
	}
	for _, c := range channels {
		for category, want := range map[string]bool{"news": false, "new": true, "newss": true, "bills": true} {
			if is, err := pref.Wants(u, category, c); is != want || err != api.OK {
				t.Errorf("Wants %s by %d is %v, %d", category, c, is, err)
			}
		}
	}
}

func TestWantsOfAllSetsOfOuts(t *testing.T) { // 17.2
	for bits := range 1 << 12 {
		u := api.User{Name: "ann", Outs: subset(bits)}
		for _, category := range []string{"a", "b", "c", "ab"} {
			for _, c := range channels {
				want := wanted(u.Outs, category, c)
				if is, err := pref.Wants(u, category, c); is != want || err != api.OK {
					t.Fatalf("Wants %s by %d, with %v, is %v, %d", category, c, u.Outs, is, err)
				}
			}
		}
	}
}

func TestWantsOfAnyTextsAsCategories(t *testing.T) { // 17.2
	u := api.User{Name: "ann", Outs: []api.Out{{Channel: 2}, {Category: "a"}}}
	for _, category := range append([]string{"b", "aa"}, noNames...) {
		for c, want := range map[api.Channel]bool{1: true, 2: false, 3: true} {
			if is, err := pref.Wants(u, category, c); is != want || err != api.OK {
				t.Errorf("Wants %.40q by %d is %v, %d", category, c, is, err)
			}
		}
	}
}

func TestWantsRefusesWhatIsNoChannel(t *testing.T) { // 17.2
	for _, u := range rights() {
		for _, c := range append(noChannels, api.ChannelNone) {
			for _, category := range []string{"a", "news", ""} {
				if is, err := pref.Wants(u, category, c); is || err != api.ErrRange {
					t.Errorf("Wants %q by %d is %v, %d, not ErrRange", category, c, is, err)
				}
			}
		}
	}
}
