package render_test

import (
	"reflect"
	"slices"
	"strings"
	"testing"
	"unsafe"

	"bellman/api"
	"bellman/render"
	"bellman/tree"
)

// deep is v in other memory, nil for each list that is empty.
func deep(v api.Value) api.Value {
	all := api.Value{Kind: v.Kind, Text: strings.Clone(v.Text), Num: v.Num}
	for _, name := range v.Names {
		all.Names = append(all.Names, strings.Clone(name))
	}
	for _, item := range v.Items {
		all.Items = append(all.Items, deep(item))
	}
	return all
}

// same tells whether two right values are the same; nil and empty lists are alike.
func same(a, b api.Value) bool {
	return reflect.DeepEqual(deep(a), deep(b))
}

// within is a value that has itself within.
func within(kind api.ValueKind) api.Value {
	v := api.Value{Kind: kind, Items: make([]api.Value, 2), Names: []string{"a", "b"}}
	if kind == api.ValueList {
		v.Names = nil
	}
	v.Items[0], v.Items[1] = v, v
	return v
}

// wrongValues are values that are not right.
func wrongValues() map[string]api.Value {
	nested := num(1)
	for range 8 {
		nested = list(nested)
	}
	return map[string]api.Value{
		"nothing":             {},
		"the kind behind":     {Kind: api.ValueCount},
		"a text with Num":     {Kind: api.ValueText, Num: 1},
		"a text too long":     text(strings.Repeat("x", api.MaxText+1)),
		"a bool of 2":         boolean(2),
		"names that fall":     object("b a", num(1), num(2)),
		"a name too many":     object("a b", num(1)),
		"a name that is none": object("A", num(1)),
		"a wrong one within":  object("a b", num(1), list(num(2), api.Value{})),
		"a level too many":    nested,
		"a part too many":     many(api.MaxParts),
		"a list of itself":    within(api.ValueList),
		"a map of itself":     within(api.ValueMap),
	}
}

func TestMeansTellsWhatPathsMean(t *testing.T) { // 14.2
	whole := object("a b this z", num(1), object("c", text("whole")), num(7), num(0))
	first := object("b c", object("d", list(num(2))), text("first"))
	last := object("a this", object("c", object("d", object("e", object("f", text("deep"))))), num(8))
	for _, c := range []struct {
		path  string
		items []api.Value
		want  api.Value // of no kind: it means nothing
	}{
		{"a", nil, num(1)},
		{"b", nil, object("c", text("whole"))},
		{"b.c", nil, text("whole")},
		{"z", nil, num(0)},
		{"c", nil, api.Value{}},
		{"b.d", nil, api.Value{}},
		{"a.a", nil, api.Value{}},
		{"this", nil, api.Value{}},
		{"this.a", nil, api.Value{}},
		{"b.this", nil, api.Value{}},
		{"a", []api.Value{first}, num(1)},
		{"b.d", []api.Value{first}, list(num(2))},
		{"b.c", []api.Value{first}, api.Value{}},
		{"c", []api.Value{first}, text("first")},
		{"z", []api.Value{first}, num(0)},
		{"this", []api.Value{first}, first},
		{"this.b.d", []api.Value{first}, list(num(2))},
		{"this.a", []api.Value{first}, api.Value{}},
		{"this.this", []api.Value{first}, api.Value{}},
		{"a", []api.Value{first, last}, last.Items[0]},
		{"b", []api.Value{first, last}, first.Items[0]},
		{"b.d", []api.Value{first, last}, list(num(2))},
		{"b.c", []api.Value{first, last}, api.Value{}},
		{"c", []api.Value{first, last}, text("first")},
		{"this", []api.Value{first, last}, last},
		{"this.a", []api.Value{first, last}, last.Items[0]},
		{"this.c", []api.Value{first, last}, api.Value{}},
		{"this.this", []api.Value{first, last}, num(8)},
		{"a.c.d.e.f", []api.Value{first, last}, text("deep")},
		{"this.a.c.d.e.f", []api.Value{first, last}, text("deep")},
		{"a.c.d.e.f.g", []api.Value{first, last}, api.Value{}},
		{"a", []api.Value{last, first}, last.Items[0]},
		{"b.d", []api.Value{last, first}, list(num(2))},
		{"this", []api.Value{last, first}, first},
		{"this.this", []api.Value{last, first}, api.Value{}},
		{"b.c", []api.Value{num(3), text("a"), list(whole, first), boolean(1), list()}, text("whole")},
		{"this", []api.Value{first, num(3)}, num(3)},
		{"this", []api.Value{first, list()}, list()},
		{"this.c", []api.Value{first, num(3)}, api.Value{}},
		{"c", []api.Value{first, num(3)}, text("first")},
		{"c", []api.Value{first, object("")}, text("first")},
		{"b", []api.Value{first, object("b", boolean(0))}, boolean(0)},
		{"b.d", []api.Value{first, object("b", boolean(0))}, api.Value{}},
		{"c", slices.Repeat([]api.Value{first, num(1)}, 500), text("first")},
		{"z", slices.Repeat([]api.Value{first, num(1)}, 500), num(0)},
		{"none", slices.Repeat([]api.Value{first, num(1)}, 500), api.Value{}},
		{"A", []api.Value{first}, api.Value{}},
		{"", []api.Value{first}, api.Value{}},
		{".b", []api.Value{first}, api.Value{}},
		{"b.", []api.Value{first}, api.Value{}},
		{"this.", []api.Value{first}, api.Value{}},
		{"This", []api.Value{first}, api.Value{}},
		{"b d", []api.Value{first}, api.Value{}},
	} {
		no := api.OK
		if c.want.Kind == api.ValueNone {
			no = api.ErrNone
		}
		if got, err := render.Means(strings.Split(c.path, "."), whole, c.items...); !same(got, c.want) || err != no {
			t.Errorf("Means of %q with %.200v is %v, %d, not %v", c.path, c.items, got, err, c.want)
		}
	}
}

func TestMeansOfValuesThatAreNoMaps(t *testing.T) { // 14.2
	item := object("a", num(1))
	for _, v := range []api.Value{text("a"), num(1), boolean(1), list(item), many(255), object("")} {
		if got, err := render.Means([]string{"a"}, v); !same(got, api.Value{}) || err != api.ErrNone {
			t.Errorf("Means of a in %v is %v, %d, not ErrNone", v, got, err)
		}
		if got, err := render.Means([]string{"a"}, v, item); !same(got, num(1)) || err != api.OK {
			t.Errorf("Means of a in an item is %v, %d", got, err)
		}
		if got, err := render.Means([]string{"this"}, item, v); !same(got, v) || err != api.OK {
			t.Errorf("Means of this is %v, %d, not %v", got, err, v)
		}
	}
}

func TestAnEmptyPathMeansNothing(t *testing.T) { // 14.2
	for _, path := range [][]string{nil, {}} {
		for _, items := range [][]api.Value{nil, {num(1)}, {object("a", num(1)), list()}} {
			if got, err := render.Means(path, object("a", num(1)), items...); !same(got, api.Value{}) || err != api.ErrNone {
				t.Errorf("Means of an empty path is %v, %d, not ErrNone", got, err)
			}
		}
	}
}

func TestMeansTellsFirstWhatIsWrong(t *testing.T) { // 14.2
	right := object("a", num(1))
	for name, v := range wrongValues() {
		for _, path := range [][]string{nil, {"a"}, {"this"}, {"none"}} {
			for _, l := range [][]api.Value{{v}, {v, right}, {right, v}, {right, v, right}, {right, right, right, v}} {
				if got, err := render.Means(path, l[0], l[1:]...); !same(got, api.Value{}) || err != api.ErrForm {
					t.Errorf("%s: Means of %q is %v, %d, not ErrForm", name, path, got, err)
				}
			}
		}
	}
}

// places are where a value's memory is, but for what is empty: of lists the first part, of texts the first byte.
func places(v api.Value) []unsafe.Pointer {
	var all []unsafe.Pointer
	if v.Text != "" {
		all = append(all, unsafe.Pointer(unsafe.StringData(v.Text)))
	}
	if len(v.Names) > 0 {
		all = append(all, unsafe.Pointer(unsafe.SliceData(v.Names)))
	}
	for _, name := range v.Names {
		all = append(all, unsafe.Pointer(unsafe.StringData(name)))
	}
	if len(v.Items) > 0 {
		all = append(all, unsafe.Pointer(unsafe.SliceData(v.Items)))
	}
	for _, item := range v.Items {
		all = append(all, places(item)...)
	}
	return all
}

func TestAnswersAreNewMemory(t *testing.T) { // 14.3
	item := deep(object("name other", list(text("one"), object("a", text("two"))), text("three")))
	v := deep(object("a l", text("some text"), list(item, item)))
	var all []api.Value
	for range 2 {
		for _, path := range []string{"this", "name", "other", "a", "l"} {
			meant, err := render.Means(strings.Split(path, "."), v, item)
			if err != api.OK {
				t.Fatalf("Means of %s is %d", path, err)
			}
			all = append(all, meant)
		}
		for _, c := range channels {
			for _, s := range []string{"{{a}}", "some text", "x", "{{each l}}{{other}}{{end}}"} {
				filled, _ := render.Text(s, v, c)
				all = append(all, text(filled))
			}
			plain := []api.Node{{Kind: api.TokText, Text: strings.Clone("alone")}}
			filled, _ := render.Fill(plain, v, c)
			all = append(all, text(plain[0].Text), text(filled))
		}
	}
	seen := map[unsafe.Pointer]bool{}
	for _, one := range append(all, v, item) {
		for _, p := range places(one) {
			if seen[p] {
				t.Errorf("%.100v is not of new memory", one)
			}
			seen[p] = true
		}
	}
}

func TestWhatIsHandedInStays(t *testing.T) { // 14.3
	s := "{{a}}x{{if b}}y{{else}}{{each l}}{{this}}{{if this}}{{a}}{{end}}{{end}}{{end}}"
	l, nodes := parsed(t, s), parsed(t, s)
	v := object("a l", text("text"), list(num(1), text("x"), list(num(2))))
	items := []api.Value{object("b", num(1)), list(text("y")), text("spare")}
	v.Items = append(v.Items, text("spare"))[:2]
	path := []string{"this", "a", "spare"}
	was, wasItems := deep(v), deep(list(items...))
	for range 2 {
		for _, c := range channels {
			render.Fill(l, v, c)
			render.Text(s, v, c)
		}
		meant, _ := render.Means(path[:1], v, items[:2]...)
		meant.Items[0] = num(99)
		meant, _ = render.Means([]string{"l"}, v, items[:2]...)
		meant.Items[0], meant.Items[2].Items[0] = num(99), num(99)
		_ = append(meant.Items[:1], num(99))
	}
	if !reflect.DeepEqual(deep(v), was) || v.Items[:3][2].Text != "spare" || !reflect.DeepEqual(deep(list(items...)), wasItems) {
		t.Error("a value that was handed in was changed")
	}
	source, _ := tree.Write(l)
	if !reflect.DeepEqual(l, nodes) || source != s || !slices.Equal(path, []string{"this", "a", "spare"}) {
		t.Error("what was handed in was changed")
	}
	if again, err := render.Means([]string{"l"}, v); !same(again, was.Items[1]) || err != api.OK {
		t.Errorf("an answer hangs on an earlier one: %v, %d", again, err)
	}
}
