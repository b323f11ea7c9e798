package batch_test

import (
	"fmt"
	"math/rand"
	"slices"
	"strings"
	"testing"
	"unsafe"

	"bellman/api"
	"bellman/batch"
)

// mine is a batch of that Id, whose it is told by a number: 32 users, of each 64 categories.
func mine(id int64, whose int) api.Batch {
	return api.Batch{Id: id, User: fmt.Sprintf("u%d", whose%32), Category: fmt.Sprintf("c%d", whose/32), Events: []int64{id, id + 5}, Close: 60 * id}
}

// row are so many batches, rising, of which each is of its own user and category.
func row(n int) []api.Batch {
	var l []api.Batch
	for i := range n {
		l = append(l, mine(int64(2*i+2), i))
	}
	return l
}

// small are lists of batches of the Ids 1 to 3, in any order, with any of two users and two categories.
func small() [][]api.Batch {
	var ones []api.Batch
	for id := int64(1); id <= 3; id++ {
		for _, whose := range []int{0, 1, 32, 33} {
			ones = append(ones, mine(id, whose))
		}
	}
	all := [][]api.Batch{nil, {}}
	for _, a := range ones {
		all = append(all, []api.Batch{a})
		for _, b := range ones {
			all = append(all, []api.Batch{a, b})
			for _, c := range ones {
				all = append(all, []api.Batch{a, b, c})
			}
		}
	}
	return all
}

// isRight tells whether a list of right batches is.
func isRight(l []api.Batch) bool {
	for i, a := range l {
		for _, b := range l[:i] {
			if b.Id >= a.Id || a.User == b.User && a.Category == b.Category {
				return false
			}
		}
	}
	return len(l) <= 1024
}

// lists are right lists.
func lists() [][]api.Batch {
	all := [][]api.Batch{row(20), row(1023), row(1024)}
	for _, l := range small() {
		if isRight(l) {
			all = append(all, l)
		}
	}
	return all
}

// wrongLists are lists that are not right.
func wrongLists() map[string][]api.Batch {
	all := map[string][]api.Batch{
		"1025":                  row(1025),
		"one too many":          append(row(1024), mine(5000, 1999)),
		"the last id twice":     append(row(20), mine(40, 999)),
		"the last id below":     append(row(20), mine(39, 999)),
		"of one whose first is": append(row(1000), mine(5000, 0)),
		"of one whose last is":  append(row(1000), mine(5000, 999)),
	}
	for _, l := range small() {
		if !isRight(l) {
			all[told(l)] = l
		}
	}
	for name, b := range wrongs() {
		all["alone: "+name] = []api.Batch{b}
		all["last: "+name] = append(row(2), b)
		all["first: "+name] = append([]api.Batch{b}, mine(1000, 0))
	}
	return all
}

func TestAllTellsWhatIsRight(t *testing.T) { // 20.1
	if n := len(lists()); n != 3+2+12+36+24 {
		t.Fatalf("%d lists are right", n)
	}
	for _, l := range lists() {
		if err := batch.All(l); err != api.OK {
			t.Errorf("All of %.200v is %d", l, err)
		}
	}
	for _, b := range rights() {
		if err := batch.All([]api.Batch{b}); err != api.OK {
			t.Errorf("All of %v alone is %d", b, err)
		}
	}
	for name, l := range wrongLists() {
		if err := batch.All(l); err != api.ErrForm {
			t.Errorf("%.200s: All is %d, not ErrForm", name, err)
		}
	}
}

func TestNamesAreHeldApart(t *testing.T) { // 20.1, 20.2
	one := api.Batch{Id: 1, User: "ab", Category: "c", Events: []int64{1}}
	two := api.Batch{Id: 2, User: "a", Category: "bc", Events: []int64{2}}
	three := api.Batch{Id: 3, User: "c", Category: "ab", Events: []int64{3}}
	l := []api.Batch{one, two, three}
	if err := batch.All(l); err != api.OK {
		t.Fatalf("All is %d", err)
	}
	for _, want := range l {
		if b, err := batch.Find(l, want.User, want.Category); told(b) != told(want) || err != api.OK {
			t.Errorf("Find(%s, %s) is %v, %d", want.User, want.Category, b, err)
		}
	}
}

func TestFindTellsTheBatch(t *testing.T) { // 20.2, 20.4
	users := append([]string{"u0", "u1", "u2", "u31", "c0", "u"}, noNames...)
	for _, l := range lists() {
		for _, user := range users {
			for _, category := range []string{"c0", "c1", "c31", "c", "u0", "", "C0"} {
				want, no := api.Batch{}, api.ErrNone
				for _, b := range l {
					if b.User == user && b.Category == category {
						want, no = b, api.OK
					}
				}
				if b, err := batch.Find(l, user, category); told(b) != told(want) || err != no {
					t.Fatalf("Find(%.40s, %s) in %.200v is %v, %d, not %v, %d", user, category, l, b, err, want, no)
				}
			}
		}
	}
	for name, l := range wrongLists() {
		for _, user := range []string{"u0", "u1", "ann", "nobody", ""} {
			for _, category := range []string{"c0", "c1", "news", ""} {
				if b, err := batch.Find(l, user, category); told(b) != told(api.Batch{}) || err != api.ErrForm {
					t.Fatalf("%.200s: Find(%s, %s) is %v, %d, not ErrForm", name, user, category, b, err)
				}
			}
		}
	}
}

// putted is what Put must answer of a right list.
func putted(l []api.Batch, b api.Batch) ([]api.Batch, api.Errno) {
	if batch.Check(b) != api.OK {
		return l, api.ErrForm
	}
	var others []api.Batch
	for _, other := range l {
		if other.Id == b.Id {
			continue
		}
		if other.User == b.User && other.Category == b.Category {
			return l, api.ErrTwice
		}
		others = append(others, other)
	}
	if len(others) == 1024 {
		return l, api.ErrFull
	}
	all := append(others, b)
	slices.SortFunc(all, func(a, b api.Batch) int { return int(a.Id - b.Id) })
	return all, api.OK
}

// same tells whether two lists are told alike; it tells long ones piece by piece.
func same(a, b []api.Batch) bool {
	return slices.EqualFunc(a, b, func(a, b api.Batch) bool {
		return a.Id == b.Id && a.User == b.User && a.Category == b.Category && a.Close == b.Close && slices.Equal(a.Events, b.Events)
	})
}

func TestPutTellsOneMoreOrAnother(t *testing.T) { // 20.2
	for _, l := range lists() {
		for _, id := range []int64{1, 2, 3, 4, 40, 2047, 2048, 2049} {
			for _, whose := range []int{0, 1, 32, 33, 19, 1022, 1023, 1999} {
				b := mine(id, whose)
				b.Close, b.Events = 7, []int64{id + 9}
				want, no := putted(l, b)
				if all, err := batch.Put(l, b); !same(all, want) || err != no {
					t.Fatalf("Put of %v into %.200v is %.200v, %d, not %.200v, %d", b, l, all, err, want, no)
				}
			}
		}
	}
}

func TestPutRefuses(t *testing.T) { // 20.2
	for name, b := range wrongs() {
		for _, l := range [][]api.Batch{nil, {batched()}, row(3), row(1024)} {
			if all, err := batch.Put(l, b); !same(all, l) || err != api.ErrForm {
				t.Errorf("%s: Put is %.200v, %d, not ErrForm", name, all, err)
			}
		}
	}
	for name, l := range wrongLists() {
		for _, b := range []api.Batch{mine(1, 0), mine(9000, 1998), {}} {
			if all, err := batch.Put(l, b); len(all) != 0 || err != api.ErrForm {
				t.Errorf("%.200s: Put is %.200v, %d, not ErrForm", name, all, err)
			}
		}
	}
	// That it is of another one's is told ahead of that there is no room.
	full := row(1024)
	for _, c := range []struct {
		b   api.Batch
		err api.Errno
	}{
		{mine(1, 0), api.ErrTwice},
		{mine(9000, 1023), api.ErrTwice},
		{mine(2, 1023), api.ErrTwice},
		{mine(1, 1024), api.ErrFull},
		{mine(9000, 1024), api.ErrFull},
	} {
		if all, err := batch.Put(full, c.b); !same(all, full) || err != c.err {
			t.Errorf("Put of %v into a full list is %.200v, %d, not %d", c.b, all, err, c.err)
		}
	}
	for _, b := range []api.Batch{mine(2, 0), mine(2, 1024), mine(2048, 1024)} {
		if all, err := batch.Put(full, b); len(all) != 1024 || !slices.ContainsFunc(all, func(o api.Batch) bool { return told(o) == told(b) }) || err != api.OK {
			t.Errorf("Put of %v instead of one of a full list is %d", b, err)
		}
	}
}

func TestTakeTellsTheOthersAndIt(t *testing.T) { // 20.2
	for _, l := range lists() {
		for _, id := range append([]int64{1, 2, 3, 4, 20, 39, 40, 41, 2046, 2048, 2049, maxCount}, noCounts...) {
			var left []api.Batch
			want, no := api.Batch{}, api.ErrNone
			for _, b := range l {
				if b.Id == id {
					want, no = b, api.OK
				} else {
					left = append(left, b)
				}
			}
			if all, b, err := batch.Take(l, id); !same(all, left) || told(b) != told(want) || err != no {
				t.Fatalf("Take(%d) of %.200v is %.200v, %v, %d, not %d", id, l, all, b, err, no)
			}
		}
	}
	for name, l := range wrongLists() {
		for _, id := range []int64{0, 1, 2, 3, 5, 40, 5000} {
			if all, b, err := batch.Take(l, id); len(all) != 0 || told(b) != told(api.Batch{}) || err != api.ErrForm {
				t.Errorf("%.200s: Take(%d) is %.200v, %v, %d, not ErrForm", name, id, all, b, err)
			}
		}
	}
}

func TestCallsOneBehindAnother(t *testing.T) { // 20.2, 20.4
	r := rand.New(rand.NewSource(21))
	for range 40 {
		var l []api.Batch
		ids := map[[2]string]int64{}
		for step := range 200 {
			user, category := fmt.Sprintf("u%d", r.Intn(4)), fmt.Sprintf("c%d", r.Intn(4))
			id, there := ids[[2]string{user, category}]
			found, err := batch.Find(l, user, category)
			if there != (err == api.OK) || found.Id != id {
				t.Fatalf("found is %v, %d, not %d", found, err, id)
			}
			event := int64(step + 1)
			switch {
			case there && r.Intn(4) == 0:
				l, found, err = batch.Take(l, id)
				delete(ids, [2]string{user, category})
				if found.Id != id || found.User != user || found.Category != category {
					t.Fatalf("taken is %v", found)
				}
			case there && len(found.Events) < 16:
				found, err = batch.Add(found, event)
				l, _ = batch.Put(l, found)
			case !there:
				found, err = batch.Open(event, user, category, event, 0, 60)
				l, _ = batch.Put(l, found)
				ids[[2]string{user, category}] = event
			}
			if err != api.OK || batch.All(l) != api.OK || len(l) != len(ids) {
				t.Fatalf("step %d: %v, %d", step, l, err)
			}
			onceEach(t, l)
		}
	}
}

// onceEach tells whether each event is in one batch only.
func onceEach(t *testing.T, l []api.Batch) {
	t.Helper()
	seen := map[int64]int{}
	for _, b := range l {
		for _, e := range b.Events {
			if seen[e]++; seen[e] > 1 {
				t.Fatalf("%d is twice in %v", e, l)
			}
		}
	}
}

// places are where the batches have their texts and the room of their events.
func places(l ...api.Batch) []unsafe.Pointer {
	var all []unsafe.Pointer
	for _, b := range l {
		if cap(b.Events) > 0 {
			all = append(all, unsafe.Pointer(unsafe.SliceData(b.Events)))
		}
		for _, s := range []string{b.User, b.Category} {
			if s != "" {
				all = append(all, unsafe.Pointer(unsafe.StringData(s)))
			}
		}
	}
	return all
}

// apart tells whether none of them shares memory with another one.
func apart(l ...api.Batch) bool {
	seen := map[unsafe.Pointer]int{}
	for _, p := range places(l...) {
		if seen[p]++; seen[p] > 1 {
			return false
		}
	}
	return true
}

// roomy is a batch of new memory, with room behind its events.
func roomy(id int64, user string) api.Batch {
	b := api.Batch{Id: id, User: strings.Clone(user), Category: strings.Clone("news"), Events: upTo(5), Close: 60}
	b.Events = append(b.Events, 777)[:5]
	return b
}

// roomyList is one of new memory, with a batch behind it.
func roomyList() []api.Batch {
	return []api.Batch{roomy(2, "ann"), roomy(4, "bob"), roomy(6, "carl"), roomy(8, "spare")}[:3]
}

func TestAnswersAreNewMemory(t *testing.T) { // 20.3
	l, b, wrong := roomyList(), roomy(5, "dora"), roomy(0, "nobody")
	twice, instead, full := roomy(7, "ann"), roomy(4, "emil"), roomy(3, "full")
	full.Events = upTo(16)
	name := strings.Clone("fritz")
	all := append([]api.Batch{b, wrong, twice, instead, full, {User: name}}, l[:4]...)
	add := func(b api.Batch, _ api.Errno) { all = append(all, b) }
	put := func(b api.Batch) {
		more, _ := batch.Put(l, b)
		all = append(all, more...)
	}
	for range 2 {
		add(batch.Open(1, name, strings.Clone("a"), 1, 0, 60))
		add(batch.Add(b, 500))
		add(batch.Add(b, 1))
		add(batch.Add(full, 5000))
		add(batch.Find(l, "bob", "news"))
		for _, b := range []api.Batch{b, wrong, twice, instead} {
			put(b)
		}
		for _, id := range []int64{4, 5} {
			left, taken, _ := batch.Take(l, id)
			all = append(append(all, left...), taken)
		}
	}
	if !apart(all...) {
		t.Error("an answer shares memory")
	}
}

func TestListsAreNewMemory(t *testing.T) { // 20.3
	l := roomyList()
	calls := []func() []api.Batch{
		func() []api.Batch { all, _ := batch.Put(l, roomy(5, "dora")); return all },
		func() []api.Batch { all, _ := batch.Put(l, roomy(9, "dora")); return all },
		func() []api.Batch { all, _ := batch.Put(l, roomy(4, "emil")); return all },
		func() []api.Batch { all, _ := batch.Put(l, roomy(7, "ann")); return all },
		func() []api.Batch { all, _ := batch.Put(l, roomy(0, "ann")); return all },
		func() []api.Batch { all, _, _ := batch.Take(l, 4); return all },
		func() []api.Batch { all, _, _ := batch.Take(l, 5); return all },
	}
	for i, call := range calls {
		one, two := call(), call()
		kept := told(two)
		one = one[:cap(one)]
		for i := range one {
			for k := range one[i].Events {
				one[i].Events[k] = -7
			}
			one[i] = api.Batch{User: "changed"}
		}
		if told(two) != kept || told(l[:4]) != told(roomyList()[:4]) {
			t.Errorf("call %d shares its list", i)
		}
	}
}

func TestWhatIsHandedInStays(t *testing.T) { // 20.3
	l, b := roomyList(), roomy(5, "dora")
	for i, call := range []func(){
		func() { batch.Check(b); batch.All(l); batch.Find(l, "bob", "news") },
		func() { batch.Add(b, 500); batch.Add(b, 1); batch.Add(l[0], 900) },
		func() {
			batch.Put(l, b)
			batch.Put(l, l[1])
			batch.Put(l, roomy(4, "emil"))
			batch.Put(l, roomy(7, "bob"))
		},
		func() { batch.Take(l, 2); batch.Take(l, 4); batch.Take(l, 6); batch.Take(l, 7) },
	} {
		call()
		if told(l[:4], b) != told(roomyList()[:4], roomy(5, "dora")) || b.Events[:6][5] != 777 || l[0].Events[:6][5] != 777 {
			t.Errorf("call %d changed what was handed in", i)
		}
	}
}
