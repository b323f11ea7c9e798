package pref_test

import (
	"fmt"
	"math/rand"
	"slices"
	"strings"
	"testing"
	"unsafe"

	"bellman/api"
	"bellman/pref"
)

// row are so many users, rising, each another one.
func row(n int) []api.User {
	var l []api.User
	for i := range n {
		u := rights()[i%len(rights())]
		u.Name = fmt.Sprintf("u%03d", i)
		l = append(l, u)
	}
	return l
}

// named are users of those names.
func named(names ...string) []api.User {
	var l []api.User
	for i, name := range names {
		l = append(l, api.User{Name: name, Version: int64(i + 1)})
	}
	return l
}

// lists are right lists of users.
func lists() [][]api.User {
	all := [][]api.User{nil, {}, row(1), row(20), row(255), row(256)}
	for bits := range 1 << 7 {
		var some []string
		for i, name := range []string{"a", "a0", "a_", "aa", "b", "ba", "z"} {
			if bits>>i&1 == 1 {
				some = append(some, name)
			}
		}
		all = append(all, named(some...))
	}
	return all
}

// wrongLists are lists that are not right.
func wrongLists() map[string][]api.User {
	all := map[string][]api.User{
		"257":             row(257),
		"many":            row(2000),
		"one twice":       named("a", "a"),
		"the last twice":  append(row(20), row(20)[19]),
		"falling":         named("b", "a"),
		"by letters":      named("aa", "a_"),
		"falling behind":  append(row(200), named("u000a")...),
		"a long one last": named("ab", "a"),
	}
	for name, u := range wrongs() {
		all["first: "+name] = append([]api.User{u}, named("zz")...)
		all["last: "+name] = append(named("a", "aa"), u)
	}
	return all
}

func TestAllTellsWhatIsRight(t *testing.T) { // 17.1
	for _, l := range lists() {
		if err := pref.All(l); err != api.OK {
			t.Errorf("All of %.200v is %d", l, err)
		}
	}
	for name, l := range wrongLists() {
		if err := pref.All(l); err != api.ErrForm {
			t.Errorf("%s: All is %d, not ErrForm", name, err)
		}
	}
}

func TestFindTellsTheUser(t *testing.T) { // 17.3
	for _, l := range lists() {
		some := append([]string{"a", "a0", "a1", "a_", "aa", "az", "b", "ba", "bb", "z", "zz", "u000", "u0000", "u255", "u256"}, noNames...)
		for _, name := range some {
			want, no := api.User{}, api.ErrUser
			for _, u := range l {
				if u.Name == name {
					want, no = u, api.OK
				}
			}
			u, err := pref.Find(l, name)
			checkUser(t, told("Find", name), u, err, want, no)
		}
	}
	for name, l := range wrongLists() {
		for _, of := range []string{"a", "zz", "u000", "", "nobody"} {
			if u, err := pref.Find(l, of); told(u) != told(api.User{}) || err != api.ErrForm {
				t.Errorf("%s: Find(%q) is %v, %d, not ErrForm", name, of, u, err)
			}
		}
	}
}

func TestPutTellsOneMoreOrAnother(t *testing.T) { // 17.3
	for _, l := range lists() {
		for _, name := range []string{"a", "a0", "a00", "a_", "aa", "az", "b", "ba", "bb", "z", "zz", "u000", "u0000", "u254", "u255", "u256"} {
			u := api.User{Name: name, Version: 77, Quiet: night(), Outs: many(5)}
			var want []api.User
			for _, other := range l {
				if other.Name != name {
					want = append(want, other)
				}
			}
			want = append(want, u)
			slices.SortFunc(want, func(a, b api.User) int { return strings.Compare(a.Name, b.Name) })
			no := api.OK
			if len(want) == 257 {
				want, no = l, api.ErrFull
			}
			if got, err := pref.Put(l, u); told(got) != told(want) || err != no {
				t.Fatalf("Put of %s into %.200v is %.200v, %d, not %d", name, l, got, err, no)
			}
		}
	}
}

func TestPutTellsWhatIsWrong(t *testing.T) { // 17.3
	for name, u := range wrongs() {
		for _, l := range [][]api.User{nil, row(3), named("ann", "bob"), row(256)} {
			if got, err := pref.Put(l, u); told(got) != told(l) || err != api.ErrForm {
				t.Errorf("%s: Put is %.200v, %d, not ErrForm", name, got, err)
			}
		}
	}
	for name, l := range wrongLists() {
		for _, u := range []api.User{{Name: "a"}, {Name: "zz"}, {Name: "u000"}, {Name: "A"}, {Name: "ann", Version: -1}} {
			if got, err := pref.Put(l, u); len(got) != 0 || err != api.ErrForm {
				t.Errorf("%s: Put is %.200v, %d, not nothing and ErrForm", name, got, err)
			}
		}
	}
}

// places are where the memory of users is: of each list its first part, of each text its first byte.
func places(l ...api.User) []unsafe.Pointer {
	var all []unsafe.Pointer
	put := func(s string) {
		if s != "" {
			all = append(all, unsafe.Pointer(unsafe.StringData(s)))
		}
	}
	for _, u := range l {
		put(u.Name)
		if cap(u.Quiet.Week) > 0 {
			all = append(all, unsafe.Pointer(unsafe.SliceData(u.Quiet.Week)))
		}
		if cap(u.Outs) > 0 {
			all = append(all, unsafe.Pointer(unsafe.SliceData(u.Outs)))
		}
		for _, o := range u.Outs {
			put(o.Category)
		}
	}
	return all
}

// apart tells whether none of the users shares memory with another one.
func apart(l ...api.User) bool {
	seen := map[unsafe.Pointer]bool{}
	for _, p := range places(l...) {
		if seen[p] {
			return false
		}
		seen[p] = true
	}
	return true
}

// full is a user of new memory, with room behind the lists.
func full(name string) api.User {
	u := copied(api.User{Name: name, Version: 3, Quiet: night(), Outs: many(6)})
	u.Quiet.Week = append(u.Quiet.Week, api.Range{From: 77, To: 78})[:2]
	u.Outs = append(u.Outs, api.Out{Category: "spare"})[:6]
	return u
}

// out is one of new memory.
func out(category string) api.Out {
	return api.Out{Category: strings.Clone(category), Channel: 2}
}

func TestAnswersAreNewMemory(t *testing.T) { // 17.4
	u, other, q := full("ann"), full("bob"), full("any").Quiet
	holder := func(s string, o api.Out) api.User { return api.User{Name: s, Outs: []api.Out{o}} }
	name, o := strings.Clone("carl"), out("news")
	all := []api.User{u, other, {Quiet: q}, holder(name, o)}
	add := func(u api.User, _ api.Errno) { all = append(all, u) }
	for range 2 {
		add(pref.Make(name, q))
		add(pref.Off(u, o))
		add(pref.Off(u, u.Outs[1]))
		add(pref.Off(u, api.Out{Channel: 9}))
		add(pref.On(u, u.Outs[1]))
		add(pref.On(u, o))
		add(pref.Hours(u, q))
		add(pref.Hours(u, api.Quiet{Zone: api.Zone{Base: 901}}))
		add(pref.Find([]api.User{u, other}, "bob"))
		more, _ := pref.Put([]api.User{u}, other)
		instead, _ := pref.Put([]api.User{u, other}, u)
		wrong, _ := pref.Put([]api.User{u, other}, api.User{})
		for _, l := range [][]api.User{more, instead, wrong} {
			all = append(all, l...)
		}
	}
	last := full("zed")
	last.Version = maxCount
	all = append(all, last)
	add(pref.Off(last, out("other")))
	big := row(256)
	for i := range big {
		big[i] = copied(big[i])
	}
	kept, _ := pref.Put(big, last)
	all = append(all, append(big, kept...)...)
	if !apart(all...) {
		t.Error("an answer shares memory")
	}
}

func TestListsOfUsersAreNewMemory(t *testing.T) { // 17.4
	l := append(row(5), row(6)[5])[:5]
	spare := told(l[:6])
	was := told(l)
	for _, u := range []api.User{{Name: "u002"}, {Name: "u004"}, {Name: "zed"}, {Name: "a"}, {Name: "Wrong"}} {
		one, _ := pref.Put(l, u)
		two, _ := pref.Put(l, u)
		kept := told(two)
		for i := range one[:cap(one)] {
			one[:cap(one)][i] = api.User{Name: "changed"}
		}
		if told(l) != was || told(l[:6]) != spare || told(two) != kept {
			t.Errorf("Put of %s shares its list", u.Name)
		}
	}
}

func TestWhatIsHandedInStays(t *testing.T) { // 17.4
	r := rand.New(rand.NewSource(17))
	for range 300 {
		u, other := full("ann"), full("bob")
		l := []api.User{u, other}
		q, o := full("any").Quiet, out("news")
		calls := []func(){
			func() { pref.Check(u); pref.All(l); pref.Wants(u, "c01", 1) },
			func() { pref.Make("ann", q) },
			func() { pref.Off(u, o) },
			func() { pref.Off(u, api.Out{}) },
			func() { pref.On(u, u.Outs[r.Intn(6)]) },
			func() { pref.Hours(u, q) },
			func() { pref.Find(l, "bob") },
			func() { pref.Put(l, api.User{Name: "aaa"}) },
			func() { pref.Put(l, api.User{Name: "ann"}) },
		}
		calls[r.Intn(len(calls))]()
		fresh := full("ann")
		if told(l, q, o) != told([]api.User{fresh, full("bob")}, fresh.Quiet, out("news")) {
			t.Fatal("what was handed in was changed")
		}
		if told(u.Outs[:7], u.Quiet.Week[:3], q.Week[:3]) != told(fresh.Outs[:7], fresh.Quiet.Week[:3], fresh.Quiet.Week[:3]) {
			t.Fatal("what is behind a list was changed")
		}
	}
}

func TestChangesOneBehindAnother(t *testing.T) { // 17.2, 17.3, 17.5
	r := rand.New(rand.NewSource(18))
	for range 300 {
		u, _ := pref.Make("ann", api.Quiet{})
		outs := map[api.Out]int{}
		var l []api.User
		all := append(universe(), many(40)...)
		for step := range 60 {
			o := all[r.Intn(len(all))]
			var next api.User
			var err api.Errno
			if r.Intn(4) > 0 {
				next, err = pref.Off(u, o)
				if err == api.OK {
					outs[o]++
				}
			} else {
				next, err = pref.On(u, o)
				if err == api.OK {
					delete(outs, o)
				}
			}
			if err != api.OK && told(next) != told(u) || err == api.OK && next.Version != u.Version+1 {
				t.Fatalf("step %d: %v of %v, %d", step, next, u, err)
			}
			u = next
			l, err = pref.Put(l, u)
			if found, no := pref.Find(l, "ann"); err != api.OK || no != api.OK || told(found) != told(u) || len(l) != 1 {
				t.Fatalf("step %d: %v is found, %d", step, found, no)
			}
			if len(u.Outs) != len(outs) || len(outs) > 32 || pref.Check(u) != api.OK {
				t.Fatalf("step %d: the outs are %v, not %v", step, u.Outs, outs)
			}
			for _, o := range u.Outs {
				if outs[o] != 1 {
					t.Fatalf("step %d: %v is among the outs", step, o)
				}
			}
		}
	}
}
