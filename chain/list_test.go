package chain_test

import (
	"fmt"
	"math/rand"
	"slices"
	"strings"
	"testing"
	"unsafe"

	"bellman/api"
	"bellman/chain"
)

// row are so many categories, rising, each another one.
func row(n int) []api.Category {
	var l []api.Category
	all := rights()
	for i := range n {
		c := all[i%len(all)]
		c.Name = fmt.Sprintf("c%03d", i)
		l = append(l, c)
	}
	return l
}

// named are categories of those names.
func named(names ...string) []api.Category {
	var l []api.Category
	for i, name := range names {
		c := category(name)
		c.Window = int64(i + 1)
		l = append(l, c)
	}
	return l
}

// lists are right lists of categories.
func lists() [][]api.Category {
	all := [][]api.Category{nil, {}, row(1), row(20), row(63), row(64)}
	for bits := range 1 << 7 {
		var some []string
		for i, name := range []string{"a", "a0", "a_", "aa", "b", "ba", "z"} {
			if bits>>i&1 == 1 {
				some = append(some, name)
			}
		}
		all = append(all, named(some...))
	}
	return all
}

// wrongLists are lists that are not right.
func wrongLists() map[string][]api.Category {
	all := map[string][]api.Category{
		"65":              row(65),
		"many":            row(1000),
		"one twice":       named("a", "a"),
		"the last twice":  append(row(20), row(20)[19]),
		"falling":         named("b", "a"),
		"by letters":      named("aa", "a_"),
		"falling behind":  append(row(60), named("c000a")...),
		"a long one last": named("ab", "a"),
	}
	for name, c := range wrongs() {
		all["first: "+name] = append([]api.Category{c}, named("zzz")...)
		all["last: "+name] = append(named("a", "aa"), c)
	}
	return all
}

// some are names of which some are in lists.
func some() []string {
	return []string{"a", "a0", "a1", "a_", "aa", "az", "b", "ba", "bb", "z", "zz", "c000", "c0000", "c063", "c064"}
}

func TestAllTellsWhatIsRight(t *testing.T) { // 18.1
	for _, l := range lists() {
		if err := chain.All(l); err != api.OK {
			t.Errorf("All of %.200v is %d", l, err)
		}
	}
	for name, l := range wrongLists() {
		if err := chain.All(l); err != api.ErrForm {
			t.Errorf("%s: All is %d, not ErrForm", name, err)
		}
	}
}

func TestFindTellsTheCategory(t *testing.T) { // 18.2
	for _, l := range lists() {
		for _, name := range append(some(), noNames...) {
			want, no := api.Category{}, api.ErrNone
			for _, c := range l {
				if c.Name == name {
					want, no = c, api.OK
				}
			}
			if got, err := chain.Find(l, name); told(got) != told(want) || err != no {
				t.Fatalf("Find(%s) in %.200v is %v, %d, not %d", name, l, got, err, no)
			}
		}
	}
	for name, l := range wrongLists() {
		for _, of := range []string{"a", "zzz", "c000", "", "nothing"} {
			if got, err := chain.Find(l, of); told(got) != told(api.Category{}) || err != api.ErrForm {
				t.Errorf("%s: Find(%q) is %v, %d, not ErrForm", name, of, got, err)
			}
		}
	}
}

func TestNamesTellsAll(t *testing.T) { // 18.2
	for _, l := range lists() {
		var want []string
		for _, c := range l {
			want = append(want, c.Name)
		}
		if got, err := chain.Names(l); !slices.Equal(got, want) || err != api.OK {
			t.Errorf("Names of %.200v is %q, %d", l, got, err)
		}
	}
	for name, l := range wrongLists() {
		if got, err := chain.Names(l); len(got) != 0 || err != api.ErrForm {
			t.Errorf("%s: Names is %q, %d, not ErrForm", name, got, err)
		}
	}
}

func TestPutTellsOneMoreOrAnother(t *testing.T) { // 18.2, 18.4
	for _, l := range lists() {
		for _, name := range some() {
			c := rights()[4]
			c.Name = name
			var want []api.Category
			for _, other := range l {
				if other.Name != name {
					want = append(want, other)
				}
			}
			want = append(want, c)
			slices.SortFunc(want, func(a, b api.Category) int { return strings.Compare(a.Name, b.Name) })
			no := api.OK
			if len(want) == 65 {
				want, no = l, api.ErrFull
			}
			got, err := chain.Put(l, c)
			if told(got) != told(want) || err != no {
				t.Fatalf("Put of %s into %.200v is %.200v, %d, not %d", name, l, got, err, no)
			}
			if err != api.OK {
				continue
			}
			if found, no := chain.Find(got, name); told(found) != told(c) || no != api.OK {
				t.Fatalf("Put of %s into %.200v: found is %v, %d", name, l, found, no)
			}
			for _, other := range l {
				if found, _ := chain.Find(got, other.Name); other.Name != name && told(found) != told(other) {
					t.Fatalf("Put of %s into %.200v: of %s found is %v", name, l, other.Name, found)
				}
			}
		}
	}
}

func TestPutTellsWhatIsWrong(t *testing.T) { // 18.2
	for name, c := range wrongs() {
		for _, l := range [][]api.Category{nil, row(3), named("a", "news"), row(64)} {
			if got, err := chain.Put(l, c); told(got) != told(l) || err != api.ErrForm {
				t.Errorf("%s: Put is %.200v, %d, not ErrForm", name, got, err)
			}
		}
	}
	for name, l := range wrongLists() {
		for _, c := range []api.Category{category("a"), category("zzz"), category("c000"), category("A"), {}} {
			if got, err := chain.Put(l, c); len(got) != 0 || err != api.ErrForm {
				t.Errorf("%s: Put is %.200v, %d, not nothing and ErrForm", name, got, err)
			}
		}
	}
}

// fresh is a category of new memory, with room behind its chain.
func fresh(name string) api.Category {
	c := category(strings.Clone(name))
	c.Source = strings.Clone(c.Source)
	c.Chain = append(c.Chain, api.Level{Tries: 77})[:3]
	return c
}

// places are where the memory of categories is.
func places(l ...api.Category) []unsafe.Pointer {
	var all []unsafe.Pointer
	for _, c := range l {
		for _, s := range []string{c.Name, c.Source} {
			if s != "" {
				all = append(all, unsafe.Pointer(unsafe.StringData(s)))
			}
		}
		if cap(c.Chain) > 0 {
			all = append(all, unsafe.Pointer(unsafe.SliceData(c.Chain)))
		}
	}
	return all
}

func TestAnswersAreNewMemory(t *testing.T) { // 18.3
	one, two, three := fresh("one"), fresh("three"), fresh("two")
	l := []api.Category{one, two}
	all := []api.Category{one, two, three}
	for range 2 {
		found, _ := chain.Find(l, "three")
		more, _ := chain.Put(l, three)
		instead, _ := chain.Put(l, one)
		refused, _ := chain.Put(l, api.Category{Name: "four"})
		names, _ := chain.Names(l)
		all = append(append(append(append(all, found), more...), instead...), refused...)
		all = append(all, api.Category{Name: names[0], Source: names[1]})
	}
	var big []api.Category
	for i := range 64 {
		big = append(big, fresh(fmt.Sprintf("c%02d", i)))
	}
	full, err := chain.Put(big, three)
	if err != api.ErrFull {
		t.Fatalf("Put is %d, not ErrFull", err)
	}
	all = append(append(all, big...), full...)
	seen := map[unsafe.Pointer]bool{}
	for _, p := range places(all...) {
		if seen[p] {
			t.Fatal("an answer shares memory")
		}
		seen[p] = true
	}
}

func TestListsOfCategoriesAreNewMemory(t *testing.T) { // 18.3
	l := append(row(5), row(6)[5])[:5]
	was := told(l[:6])
	for _, name := range []string{"c002", "c004", "zzz", "a", "Wrong"} {
		one, _ := chain.Put(l, category(name))
		two, _ := chain.Put(l, category(name))
		kept := told(two)
		for i := range one[:cap(one)] {
			one[:cap(one)][i] = api.Category{Name: "changed"}
		}
		if told(l[:6]) != was || told(two) != kept {
			t.Errorf("Put of %s shares its list", name)
		}
	}
	first, _ := chain.Names(l)
	second, _ := chain.Names(l)
	first[0] = "changed"
	if second[0] != "c000" {
		t.Error("Names shares its list")
	}
}

func TestWhatIsHandedInStays(t *testing.T) { // 18.3
	c, other := fresh("a"), fresh("b")
	l := append([]api.Category{c, other}, fresh("spare"))[:2]
	was := told(c.Chain[:4], other.Chain[:4], l[:3])
	chain.Check(c)
	chain.All(l)
	chain.Long(c)
	chain.Level(c, 1)
	chain.Find(l, "b")
	chain.Names(l)
	chain.Put(l, category("b"))
	chain.Put(l, category("aa"))
	chain.Put(l, category("c"))
	chain.Put(l, api.Category{})
	if told(c.Chain[:4], other.Chain[:4], l[:3]) != was {
		t.Error("what was handed in was changed")
	}
}

func TestPutsOneBehindAnother(t *testing.T) { // 18.2, 18.4
	r := rand.New(rand.NewSource(18))
	all := rights()
	for range 5 {
		var l []api.Category
		there := map[string]string{}
		for range 100 {
			c := all[r.Intn(len(all))]
			c.Name = fmt.Sprintf("c%d", r.Intn(70))
			if _, is := there[c.Name]; is || len(there) < 64 {
				there[c.Name] = told(c)
			}
			l, _ = chain.Put(l, c)
			names, err := chain.Names(l)
			if len(names) != len(there) || err != api.OK {
				t.Fatalf("%d names, %d, not %d", len(names), err, len(there))
			}
			for _, name := range names {
				if found, _ := chain.Find(l, name); told(found) != there[name] {
					t.Fatalf("of %s found is %v", name, found)
				}
			}
		}
	}
}
