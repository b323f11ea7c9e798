package value_test

import (
	"math/rand"
	"reflect"
	"slices"
	"strings"
	"testing"
	"unsafe"

	"bellman/api"
	"bellman/value"
)

func TestWithPutsOneInItsPlace(t *testing.T) { // 9.3
	for _, c := range []struct {
		v    api.Value
		name string
		x    api.Value
		want api.Value
	}{
		{object(""), "a", num(1), object("a", num(1))},
		{object("b", num(2)), "a", num(1), object("a b", num(1), num(2))},
		{object("b", num(2)), "c", num(3), object("b c", num(2), num(3))},
		{object("a c", num(1), num(3)), "b", list(), object("a b c", num(1), list(), num(3))},
		{object("a c", num(1), num(3)), "a0", num(2), object("a a0 c", num(1), num(2), num(3))},
		{object("a c", num(1), num(3)), "a", text("x"), object("a c", text("x"), num(3))},
		{object("a c", num(1), num(3)), "c", object("c", num(9)), object("a c", num(1), object("c", num(9)))},
		{object("a aa", num(1), num(2)), "a_", num(3), object("a a_ aa", num(1), num(3), num(2))},
	} {
		if x, err := value.With(c.v, c.name, c.x); !same(x, c.want) || err != api.OK {
			t.Errorf("With(%v, %s, %v) is %v, %d, not %v", c.v, c.name, c.x, x, err, c.want)
		}
	}
}

func TestWithTellsWhatIsWrong(t *testing.T) { // 9.3
	for _, c := range []struct {
		v    api.Value
		name string
		x    api.Value
		want api.Errno
	}{
		{text("a"), "a", num(1), api.ErrForm},
		{num(1), "a", num(1), api.ErrForm},
		{boolean(1), "a", num(1), api.ErrForm},
		{list(), "a", num(1), api.ErrForm},
		{list(num(1)), "", num(1), api.ErrForm}, // no map is told ahead of no name
		{wide(255), "A", nested(num(1), 7), api.ErrForm},
		{object("a", num(1)), "", num(1), api.ErrName},
		{object("a", num(1)), "A", num(1), api.ErrName},
		{object("a", num(1)), "a.b", num(1), api.ErrName},
		{object("a", num(1)), strings.Repeat("a", 33), num(1), api.ErrName},
		{object("a", num(1)), "1", nested(num(1), 7), api.ErrName}, // no name is told ahead of too deep
		{wideMap(255), "_", num(1), api.ErrName},
		{object("a", num(1)), "a", nested(num(1), 7), api.ErrDeep},
		{object("a", num(1)), "b", nested(list(), 7), api.ErrDeep},
		{object("a", nested(num(1), 6)), "a", nested(num(1), 7), api.ErrDeep},
		{wideMap(255), "b", num(1), api.ErrDeep},
		{wideMap(255), "a000", list(num(1)), api.ErrDeep},
		{wideMap(100), "b", wide(155), api.ErrDeep},
		{object(""), "a", wide(255), api.ErrDeep},
	} {
		if x, err := value.With(c.v, c.name, c.x); !none(x) || err != c.want {
			t.Errorf("With(%.100v, %s, %.100v) is %.100v, %d, not %d", c.v, c.name, c.x, x, err, c.want)
		}
	}
}

func TestWithGoesAsFarAsThereIsRoom(t *testing.T) { // 9.3
	for _, c := range []struct {
		v    api.Value
		name string
		x    api.Value
	}{
		{object(""), "a", nested(num(1), 6)},
		{object(""), "a", nested(list(), 6)},
		{object("a", nested(num(1), 6)), "a", nested(num(2), 6)},
		{wideMap(254), "b", num(1)},
		{wideMap(255), "a000", text("")},
		{wideMap(255), "a254", list()},
		{wideMap(100), "b", wide(154)},
		{wideMap(100), "a050", wide(155)},
		{object(""), "a", wide(254)},
		{object("a", wide(254)), "a", wideMap(254)},
	} {
		x, err := value.With(c.v, c.name, c.x)
		if err != api.OK || value.Check(x) != api.OK {
			t.Errorf("With(%.100v, %s, %.100v) is %.100v, %d", c.v, c.name, c.x, x, err)
		}
	}
}

func TestWhatIsPutIsFound(t *testing.T) { // 9.6
	r := rand.New(rand.NewSource(96))
	all := rights()
	some := append(names(), "a000", "a100", "a254", "b", "e_", "hx2")
	for _, v := range all {
		for range 30 {
			name, x := some[r.Intn(len(some))], all[r.Intn(len(all))]
			u, err := value.With(v, name, x)
			if v.Kind != api.ValueMap {
				if err != api.ErrForm || !none(u) {
					t.Fatalf("With of %v is %v, %d, not ErrForm", v, u, err)
				}
				continue
			}
			want := v.Names
			if !slices.Contains(want, name) {
				want = slices.Sorted(slices.Values(append(slices.Clone(want), name)))
			}
			if err == api.ErrDeep {
				continue
			}
			if err != api.OK || value.Check(u) != api.OK || !slices.Equal(u.Names, want) {
				t.Fatalf("With(%v, %s, %v) is %v, %d", v, name, x, u, err)
			}
			if found, err := value.Find(u, name); !same(found, x) || err != api.OK {
				t.Fatalf("With(%v, %s, %v): found is %v, %d", v, name, x, found, err)
			}
			for i, other := range v.Names {
				if found, err := value.Find(u, other); other != name && (!same(found, v.Items[i]) || err != api.OK) {
					t.Fatalf("With(%v, %s, %v): of %s there is %v, %d", v, name, x, other, found, err)
				}
			}
		}
	}
}

// places are where v's memory is: of each list its first part up to its capacity, of each text its first byte.
func places(v api.Value) []unsafe.Pointer {
	var all []unsafe.Pointer
	if v.Text != "" {
		all = append(all, unsafe.Pointer(unsafe.StringData(v.Text)))
	}
	if cap(v.Names) > 0 {
		all = append(all, unsafe.Pointer(unsafe.SliceData(v.Names)))
	}
	for _, name := range v.Names {
		all = append(all, unsafe.Pointer(unsafe.StringData(name)))
	}
	if cap(v.Items) > 0 {
		all = append(all, unsafe.Pointer(unsafe.SliceData(v.Items)))
	}
	for _, item := range v.Items {
		all = append(all, places(item)...)
	}
	return all
}

// apart tells whether no two of the values share memory, nor two parts of one.
func apart(l ...api.Value) bool {
	seen := map[unsafe.Pointer]bool{}
	for _, v := range l {
		for _, p := range places(v) {
			if seen[p] {
				return false
			}
			seen[p] = true
		}
	}
	return true
}

func TestAnswersAreNewMemory(t *testing.T) { // 9.4
	within := object("name other", list(text("one"), text("two"), list()), text("three"))
	v := deep(object("a bc", within, text("four")))
	x := deep(object("k", text("five")))
	found, _ := value.Find(v, "a")
	again, _ := value.Find(v, "a")
	whole, _ := value.Find(v)
	put, _ := value.With(v, "b", x)
	instead, _ := value.With(v, "a", x)
	twice, _ := value.With(v, "b", x)
	s, _ := value.Encode(v)
	decoded, rest, _ := value.Decode(s + "behind")
	another, rest2, _ := value.Decode(s + "behind")
	if !apart(v, x, found, again, whole, put, instead, twice, decoded, another, text(s), text(rest), text(rest2)) {
		t.Error("an answer shares memory")
	}
	shown := text("six")
	one, _ := value.Show(shown)
	two, _ := value.Show(shown)
	if !apart(shown, text(one), text(two)) {
		t.Error("a shown text shares memory")
	}
	// The same part twice is two parts in an answer.
	part := deep(list(text("seven")))
	both, _ := value.Find(list(part, part))
	if with, _ := value.With(object("a", part), "b", part); !apart(part, both, with) {
		t.Error("two parts of an answer share memory")
	}
}

func TestDecodedPartsAreNotOfTheText(t *testing.T) { // 9.4
	v := object("name", text("a text of some bytes"))
	s := valueBytes(v) + "what is behind"
	x, rest, _ := value.Decode(s)
	begin := uintptr(unsafe.Pointer(unsafe.StringData(s)))
	for _, p := range append(places(x), unsafe.Pointer(unsafe.StringData(rest))) {
		if at := uintptr(p); at >= begin && at < begin+uintptr(len(s)) {
			t.Error("a part is a piece of the text")
		}
	}
}

func TestWhatIsHandedInStays(t *testing.T) { // 9.4
	v := object("a c", list(num(1), text("x")), object("d", num(2)))
	// There is room behind the lists, that must not be written to either.
	v.Names = append(v.Names, "spare")[:2]
	v.Items = append(v.Items, text("spare"))[:2]
	x := list(num(7), object("e", text("y")))
	path := []string{"c", "d"}
	was, wasX := deep(v), deep(x)
	value.Check(v)
	value.Find(v, path...)
	value.Show(v)
	value.Holds(v)
	s, _ := value.Encode(v)
	put, _ := value.With(v, "b", x)
	instead, _ := value.With(v, "a", x)
	decoded, _, _ := value.Decode(s)
	for _, answer := range []api.Value{put, instead, decoded} {
		answer.Names[0], answer.Items[0] = "z", num(99)
		answer.Items[1].Kind = api.ValueNone
	}
	if !reflect.DeepEqual(deep(v), was) || !reflect.DeepEqual(deep(x), wasX) || !slices.Equal(path, []string{"c", "d"}) {
		t.Error("what was handed in was changed")
	}
	if v.Names[:3][2] != "spare" || v.Items[:3][2].Text != "spare" {
		t.Error("what is behind a list was changed")
	}
	if again, _ := value.With(v, "b", x); !same(again, object("a b c", was.Items[0], x, was.Items[1])) {
		t.Errorf("an answer hangs on an earlier one: %v", again)
	}
}

func TestExampleOfTheChapter(t *testing.T) { // 9.1
	v, _ := value.With(object(""), "a", num(-3))
	x, _ := value.Find(v, "a")
	if s, err := value.Show(x); s != "-3" || err != api.OK {
		t.Errorf("it shows %q, %d, not -3", s, err)
	}
}
