package value_test

import (
	"math"
	"math/big"
	"math/rand"
	"reflect"
	"slices"
	"strconv"
	"strings"
	"testing"

	"bellman/api"
	"bellman/value"
)

// The kinds of values, made short.
func text(s string) api.Value           { return api.Value{Kind: api.ValueText, Text: s} }
func num(n int64) api.Value             { return api.Value{Kind: api.ValueNum, Num: n} }
func boolean(n int64) api.Value         { return api.Value{Kind: api.ValueBool, Num: n} }
func list(items ...api.Value) api.Value { return api.Value{Kind: api.ValueList, Items: items} }

// object is a map of the names, between which there are spaces, and their items.
func object(names string, items ...api.Value) api.Value {
	return api.Value{Kind: api.ValueMap, Names: strings.Fields(names), Items: items}
}

// mixed is a text of n bytes, of which none is like the ones beside it.
func mixed(n int) string {
	var all strings.Builder
	for i := range n {
		all.WriteByte(byte(i*7 + i>>8))
	}
	return all.String()
}

// nested is v within so many values, lists and maps in turn.
func nested(v api.Value, many int) api.Value {
	for i := range many {
		if i%2 == 0 {
			v = list(v)
		} else {
			v = object("a", v)
		}
	}
	return v
}

// wide is a list of so many numbers.
func wide(many int) api.Value {
	v := list()
	for i := range many {
		v.Items = append(v.Items, num(int64(i)))
	}
	return v
}

// wideMap is a map of so many numbers, of the names a000, a001 and so on.
func wideMap(many int) api.Value {
	v := object("")
	for i := range many {
		v.Names = append(v.Names, "a"+strconv.Itoa(1000 + i)[1:])
		v.Items = append(v.Items, num(int64(i)))
	}
	return v
}

// within is a value that has itself within, so many times.
func within(kind api.ValueKind, names []string, many int) api.Value {
	v := api.Value{Kind: kind, Names: names, Items: make([]api.Value, many)}
	for i := range v.Items {
		v.Items[i] = v
	}
	return v
}

// deep is v in other memory, nil for each list that is empty.
func deep(v api.Value) api.Value {
	all := api.Value{Kind: v.Kind, Text: strings.Clone(v.Text), Num: v.Num}
	for _, name := range v.Names {
		all.Names = append(all.Names, strings.Clone(name))
	}
	for _, item := range v.Items {
		all.Items = append(all.Items, deep(item))
	}
	return all
}

// same tells whether two right values are the same; nil and empty lists are alike.
func same(a, b api.Value) bool {
	return reflect.DeepEqual(deep(a), deep(b))
}

// none tells whether v has nothing.
func none(v api.Value) bool {
	return v.Kind == 0 && v.Text == "" && v.Num == 0 && len(v.Items) == 0 && len(v.Names) == 0
}

// chance is any right value of so many levels at most.
func chance(r *rand.Rand, levels int) api.Value {
	kind := api.ValueKind(1 + r.Intn(5))
	if levels == 1 {
		kind = api.ValueKind(1 + r.Intn(3))
	}
	switch kind {
	case api.ValueText:
		return text(mixed(r.Intn(1 + r.Intn(40))))
	case api.ValueNum:
		return num(int64(r.Uint64()) >> r.Intn(64))
	case api.ValueBool:
		return boolean(int64(r.Intn(2)))
	}
	v := api.Value{Kind: kind}
	for i := range r.Intn(4) {
		if kind == api.ValueMap {
			v.Names = append(v.Names, string(rune('a'+3*i+r.Intn(3)))+[]string{"", "_", "1", "x2"}[r.Intn(4)])
		}
		v.Items = append(v.Items, chance(r, levels-1))
	}
	return v
}

// count is how many values v has, itself among them.
func count(v api.Value) int {
	many := 1
	for _, item := range v.Items {
		many += count(item)
	}
	return many
}

// rights are right values: each kind, each edge, and any others.
func rights() []api.Value {
	all := []api.Value{
		text(""), text("ab"), text("\x00\xff{{"), text(mixed(api.MaxText)),
		num(0), num(1), num(-1), num(2), num(300), num(-3), num(math.MaxInt64), num(math.MinInt64),
		boolean(0), boolean(1),
		list(), {Kind: api.ValueList, Items: []api.Value{}, Names: []string{}},
		list(num(0)), list(text(""), num(-1), boolean(1), list(), object("")),
		object(""), {Kind: api.ValueMap, Items: []api.Value{}, Names: []string{}},
		object("a", num(-3)), object("a a0 a_ aa b", num(1), num(2), list(), object("a", text("x")), boolean(0)),
		object("if this", text("a"), list(text("b"))),
		object(strings.Repeat("a", api.MaxName), num(5)),
		object("z z_9", list(object("z", num(1)), object("y", num(2))), object("z", object("z", num(3)))),
		nested(text("in"), 7), nested(num(1), 6), nested(list(), 7), nested(object(""), 7),
		list(nested(num(1), 6), num(2), nested(boolean(1), 6), list()),
		wide(255), wide(254), wideMap(255), wideMap(100),
		list(wide(126), wideMap(127)), nested(wide(200), 5), nested(wide(249), 6),
		{Kind: api.ValueText, Text: "a", Items: []api.Value{}, Names: []string{}},
		{Kind: api.ValueNum, Num: 7, Items: []api.Value{}, Names: []string{}},
	}
	r := rand.New(rand.NewSource(9))
	for i := range 400 {
		if v := chance(r, 1+i%8); count(v) <= 256 {
			all = append(all, v)
		}
	}
	return all
}

// wrongs are values that are not right.
func wrongs() map[string]api.Value {
	some, name := []api.Value{num(1)}, []string{"a"}
	many := make([]string, 1000)
	for i := range many {
		many[i] = "a" + strconv.Itoa(1000+i)
	}
	all := map[string]api.Value{
		"nothing":                    {},
		"no kind, but a text":        {Text: "a"},
		"the kind behind the last":   {Kind: api.ValueCount},
		"the highest kind":           {Kind: 255},
		"a text too long":            text(mixed(api.MaxText + 1)),
		"a bool of 2":                boolean(2),
		"a bool of -1":               boolean(-1),
		"a bool of 256":              boolean(256),
		"a bool of the lowest":       boolean(math.MinInt64),
		"a text with Num":            {Kind: api.ValueText, Text: "a", Num: 1},
		"a text with Items":          {Kind: api.ValueText, Items: some},
		"a text with Names":          {Kind: api.ValueText, Names: name},
		"a number with Text":         {Kind: api.ValueNum, Text: "a"},
		"a number with Items":        {Kind: api.ValueNum, Items: some},
		"a number with Names":        {Kind: api.ValueNum, Names: name},
		"a bool with Text":           {Kind: api.ValueBool, Num: 1, Text: "a"},
		"a bool with Items":          {Kind: api.ValueBool, Num: 1, Items: some},
		"a bool with Names":          {Kind: api.ValueBool, Num: 1, Names: name},
		"a list with Text":           {Kind: api.ValueList, Text: "a"},
		"a list with Num":            {Kind: api.ValueList, Num: 1, Items: some},
		"a list with Names":          {Kind: api.ValueList, Names: name},
		"a list with Names as Items": {Kind: api.ValueList, Names: name, Items: some},
		"a map with Text":            {Kind: api.ValueMap, Text: "a", Names: name, Items: some},
		"a map with Num":             {Kind: api.ValueMap, Num: 1},
		"a map without Names":        {Kind: api.ValueMap, Items: some},
		"a map without Items":        {Kind: api.ValueMap, Names: name},
		"a map with a Name more":     object("a b", num(1)),
		"a map with an Item more":    object("a", num(1), num(2)),
		"Names that fall":            object("b a", num(1), num(2)),
		"Names twice the same":       object("a a", num(1), num(2)),
		"Names that fall at the end": object("a c b", num(1), num(2), num(3)),
		"a name that is none":        object("A", num(1)),
		"an empty name":              {Kind: api.ValueMap, Names: []string{""}, Items: some},
		"a last name that is none":   object("a b-", num(1), num(2)),
		"a name too long":            object(strings.Repeat("a", api.MaxName+1), num(1)),
		"an item that is nothing":    list(num(1), api.Value{}),
		"an item deep within":        nested(boolean(2), 5),
		"a level too many":           nested(text("in"), 8),
		"an empty list too deep":     nested(list(), 8),
		"the last item too deep":     list(num(1), nested(num(1), 7)),
		"many levels":                nested(num(1), 100000),
		"a value too many":           wide(256),
		"a value too many in a map":  wideMap(256),
		"a value too many within":    list(wide(127), wide(127), num(1)),
		"far too many":               wide(100000),
		"itself in a list":           within(api.ValueList, nil, 1),
		"itself many times":          within(api.ValueList, nil, 255),
		"itself in a map":            within(api.ValueMap, name, 1),
		"itself often in a map":      within(api.ValueMap, many, 1000),
		"itself in a text":           within(api.ValueText, nil, 1),
	}
	return all
}

// noNames are texts that are no names.
func noNames() []string {
	all := []string{
		"", " ", "_", "_a", "0", "1a", "A", "aB", "a-b", "a.b", "a b", " a", "a ", "a\n", "a\x00", "\x00", "é", "aé", "a\xff", "{", "a{", "`a", "a`", "a/", "a:", "a^",
		strings.Repeat("a", 33), strings.Repeat("a", 100000), "a" + strings.Repeat("_", 32),
	}
	for b := range 256 {
		if b < 'a' || b > 'z' {
			all = append(all, string([]byte{byte(b)}))
			if (b < '0' || b > '9') && b != '_' {
				all = append(all, string([]byte{'a', byte(b)}), string([]byte{'a', byte(b), 'a'}))
			}
		}
	}
	return all
}

// names are texts that are names.
func names() []string {
	all := []string{"name", "a_1", "z9_", "a__", "if", "this", strings.Repeat("a", 32), strings.Repeat("z", 31) + "9"}
	for _, b := range "abcdefghijklmnopqrstuvwxyz" {
		all = append(all, string(b), "a"+string(b))
	}
	for _, b := range "0123456789_" {
		all = append(all, "a"+string(b), "z"+string(b)+"a")
	}
	return all
}

func TestNameTellsWhatIsAName(t *testing.T) { // 9.1
	for _, s := range names() {
		if err := value.Name(s); err != api.OK {
			t.Errorf("Name(%q) is %d", s, err)
		}
	}
	for _, s := range noNames() {
		if err := value.Name(s); err != api.ErrName {
			t.Errorf("Name(%.40q) is %d, not ErrName", s, err)
		}
	}
}

func TestCheckTellsWhatIsRight(t *testing.T) { // 9.1
	for _, v := range rights() {
		if err := value.Check(v); err != api.OK {
			t.Errorf("Check(%.200v) is %d", v, err)
		}
	}
}

func TestCheckTellsWhatIsWrong(t *testing.T) { // 9.1
	for name, v := range wrongs() {
		if err := value.Check(v); err != api.ErrForm {
			t.Errorf("%s: Check is %d, not ErrForm", name, err)
		}
	}
}

func TestTheOthersCheckFirst(t *testing.T) { // 9.1
	for name, v := range wrongs() {
		for _, path := range [][]string{nil, {"a"}, {"A"}, {"a", "b"}} {
			if x, err := value.Find(v, path...); !none(x) || err != api.ErrForm {
				t.Errorf("%s: Find of %q is %d, not ErrForm", name, path, err)
			}
		}
		if s, err := value.Show(v); s != "" || err != api.ErrForm {
			t.Errorf("%s: Show is %.40q, %d, not ErrForm", name, s, err)
		}
		if is, err := value.Holds(v); is || err != api.ErrForm {
			t.Errorf("%s: Holds is %t, %d, not ErrForm", name, is, err)
		}
		if s, err := value.Encode(v); s != "" || err != api.ErrForm {
			t.Errorf("%s: Encode is %.40q, %d, not ErrForm", name, s, err)
		}
		// Neither a name that is none nor one that would be too deep is told ahead.
		for _, of := range []string{"a", "A", ""} {
			for _, pair := range [][2]api.Value{{v, num(1)}, {object("a", num(1)), v}, {v, v}, {nested(num(1), 7), v}, {v, nested(num(1), 7)}} {
				if x, err := value.With(pair[0], of, pair[1]); !none(x) || err != api.ErrForm {
					t.Errorf("%s: With of %q is %d, not ErrForm", name, of, err)
				}
			}
		}
	}
}

func TestFindTellsWhatAPathFinds(t *testing.T) { // 9.1
	v := object("a b c",
		num(-3),
		object("a b", text("x"), object("z", list(num(1)))),
		list(object("a", num(1))),
	)
	for _, c := range []struct {
		path string
		want api.Value
	}{
		{"", v},
		{"a", num(-3)},
		{"b", v.Items[1]},
		{"b a", text("x")},
		{"b b", object("z", list(num(1)))},
		{"b b z", list(num(1))},
		{"c", v.Items[2]},
	} {
		x, err := value.Find(v, strings.Fields(c.path)...)
		if !same(x, c.want) || err != api.OK {
			t.Errorf("Find of %q is %v, %d, not %v", c.path, x, err, c.want)
		}
	}
	for _, path := range []string{"d", "A", "a a", "b c", "b a x", "b b a", "b b z a", "c a", "c 0", "a.b", "b.a", "a b c d e f g h i j", "b b b b b b b b b b b b"} {
		if x, err := value.Find(v, strings.Fields(path)...); !none(x) || err != api.ErrNone {
			t.Errorf("Find of %q is %v, %d, not ErrNone", path, x, err)
		}
	}
	for _, path := range [][]string{{""}, {"", "a"}, {"a", ""}, {"b", "", "a"}} {
		if x, err := value.Find(v, path...); !none(x) || err != api.ErrNone {
			t.Errorf("Find of %q is %v, %d, not ErrNone", path, x, err)
		}
	}
	for _, plain := range rights() {
		if x, err := value.Find(plain); !same(x, plain) || err != api.OK {
			t.Errorf("Find of no names is %v, %d, not %v", x, err, plain)
		}
		if plain.Kind == api.ValueMap {
			continue
		}
		if x, err := value.Find(plain, "a"); !none(x) || err != api.ErrNone {
			t.Errorf("Find in %v is %v, %d, not ErrNone", plain, x, err)
		}
	}
}

func TestFindFindsEachItemOfAMap(t *testing.T) { // 9.1
	var all func(v, root api.Value, path []string)
	all = func(v, root api.Value, path []string) {
		if x, err := value.Find(root, path...); !same(x, v) || err != api.OK {
			t.Fatalf("Find of %q is %v, %d, not %v", path, x, err, v)
		}
		for i, name := range v.Names {
			all(v.Items[i], root, append(slices.Clone(path), name))
		}
	}
	for _, v := range rights() {
		all(v, v, nil)
	}
}

func TestShowAndHolds(t *testing.T) { // 9.1
	for _, c := range []struct {
		v    api.Value
		want string
		is   bool
	}{
		{text(""), "", false},
		{text("0"), "0", true},
		{text(" "), " ", true},
		{text("\x00\xff{{"), "\x00\xff{{", true},
		{text(mixed(api.MaxText)), mixed(api.MaxText), true},
		{num(0), "0", false},
		{num(7), "7", true},
		{num(-3), "-3", true},
		{num(1000000), "1000000", true},
		{num(math.MaxInt64), "9223372036854775807", true},
		{num(math.MinInt64), "-9223372036854775808", true},
		{boolean(0), "no", false},
		{boolean(1), "yes", true},
		{list(), "0", false},
		{list(num(0)), "1", true},
		{list(list(num(1), num(2), num(3)), text("")), "2", true},
		{wide(255), "255", true},
		{object(""), "0", false},
		{object("a", num(0)), "1", true},
		{object("a b", wide(9), num(0)), "2", true},
		{wideMap(255), "255", true},
	} {
		if s, err := value.Show(c.v); s != c.want || err != api.OK {
			t.Errorf("Show(%v) is %q, %d, not %q", c.v, s, err, c.want)
		}
		if is, err := value.Holds(c.v); is != c.is || err != api.OK {
			t.Errorf("Holds(%v) is %t, %d, not %t", c.v, is, err, c.is)
		}
	}
}

// numBytes are a number's, reckoned from the document's words.
func numBytes(n int64) string {
	magnitude := new(big.Int).Abs(big.NewInt(n)).Bytes()
	head := byte(len(magnitude))
	if n < 0 {
		head += 128
	}
	return string(append([]byte{head}, magnitude...))
}

// textBytes are a text's.
func textBytes(s string) string {
	return numBytes(int64(len(s))) + s
}

// valueBytes are a value's.
func valueBytes(v api.Value) string {
	kind := string([]byte{byte(v.Kind)})
	switch v.Kind {
	case api.ValueText:
		return kind + textBytes(v.Text)
	case api.ValueNum, api.ValueBool:
		return kind + numBytes(v.Num)
	}
	all := kind + numBytes(int64(len(v.Items)))
	for i, item := range v.Items {
		if v.Kind == api.ValueMap {
			all += textBytes(v.Names[i])
		}
		all += valueBytes(item)
	}
	return all
}

func TestEncodeTellsBytes(t *testing.T) { // 9.2
	for _, c := range []struct {
		v    api.Value
		want string
	}{
		{text(""), "\x01\x00"},
		{text("ab"), "\x01\x01\x02ab"},
		{num(0), "\x02\x00"},
		{num(300), "\x02\x02\x01\x2c"},
		{num(-3), "\x02\x81\x03"},
		{boolean(0), "\x03\x00"},
		{boolean(1), "\x03\x01\x01"},
		{list(), "\x04\x00"},
		{list(num(0), text("a")), "\x04\x01\x02\x02\x00\x01\x01\x01a"},
		{object(""), "\x05\x00"},
		{object("a", num(-3)), "\x05\x01\x01\x01\x01a\x02\x81\x03"},
		{object("a bc", list(), boolean(1)), "\x05\x01\x02\x01\x01a\x04\x00\x01\x02bc\x03\x01\x01"},
	} {
		if s, err := value.Encode(c.v); s != c.want || err != api.OK {
			t.Errorf("Encode(%v) is %x, %d, not %x", c.v, s, err, c.want)
		}
	}
	for _, v := range rights() {
		if s, err := value.Encode(v); s != valueBytes(v) || err != api.OK {
			t.Errorf("Encode(%.200v) is %.40x, %d, not %.40x", v, s, err, valueBytes(v))
		}
	}
}

func TestDecodeTellsWhatIsNoValue(t *testing.T) { // 9.2
	wrongs := []string{
		"", "\x00", "\x00\x00", "\x06\x00", "\xff\x00", "\x01", "\x02", "\x03", "\x04", "\x05",
		"\x01\x01", "\x01\x01\x02a", "\x01\x81\x01a", "\x01\x01\x00", "\x01\x09", "\x01\x02\x00\x01a", "\x01\x02\x10\x01" + mixed(api.MaxText+1),
		"\x02\x01", "\x02\x01\x00", "\x02\x80", "\x02\x09", "\x02\x08\x80\x00\x00\x00\x00\x00\x00\x00", "\x02\x02\x00\x05",
		"\x03\x01\x02", "\x03\x81\x01", "\x03\x01\x00", "\x03\x02\x01\x00",
		"\x04\x01\x01", "\x04\x01\x02\x02\x00", "\x04\x81\x01", "\x04\x81\x01\x02\x00", "\x04\x01\x00", "\x04\x88\x80\x00\x00\x00\x00\x00\x00\x00", "\x04\x08\x7f\xff\xff\xff\xff\xff\xff\xff\x02\x00",
		"\x04\x01\x01\x00", "\x04\x01\x01\x06\x00", "\x04\x01\x01\x03\x01\x02", "\x04\x02\x00\x01\x02\x00",
		"\x05\x01\x01", "\x05\x01\x01\x02\x00", "\x05\x01\x01\x00\x02\x00", "\x05\x01\x01\x01\x01A\x02\x00", "\x05\x01\x01\x01\x01a", "\x05\x81\x01", "\x05\x81\x01\x01\x01a\x02\x00",
		"\x05\x01\x02\x01\x01b\x02\x00\x01\x01a\x02\x00", "\x05\x01\x02\x01\x01a\x02\x00\x01\x01a\x02\x00", "\x05\x01\x01" + textBytes(strings.Repeat("a", 33)) + "\x02\x00",
		strings.Repeat("\x04\x01\x01", 8) + "\x02\x00", strings.Repeat("\x04\x01\x01", 8) + "\x04\x00", strings.Repeat("\x04\x01\x01", 1<<20), strings.Repeat("\x05\x01\x01\x01\x01a", 1<<20),
		valueBytes(wide(256)), valueBytes(wideMap(256)), valueBytes(list(wide(127), wide(127), num(1))),
		"\x04\x03\x10\x00\x00" + strings.Repeat("\x02\x00", 1<<20), "\x04\x02\x01\x00" + strings.Repeat("\x04\x02\x01\x00", 1<<16),
	}
	for _, s := range wrongs {
		v, rest, err := value.Decode(s)
		if !none(v) || rest != "" || err != api.ErrCode {
			t.Errorf("Decode(%.40x) is %.100v, %.40x, %d, not ErrCode", s, v, rest, err)
		}
	}
}

func TestDecodeWantsAllBytes(t *testing.T) { // 9.2
	for _, v := range rights() {
		s := valueBytes(v)
		for i := range len(s) {
			if i > 300 && i < len(s)-300 {
				continue
			}
			if v, rest, err := value.Decode(s[:i]); !none(v) || rest != "" || err != api.ErrCode {
				t.Fatalf("Decode of %d of %d bytes is %v, %.40x, %d, not ErrCode", i, len(s), v, rest, err)
			}
		}
	}
}

func TestDecodeTellsJustWhatEncodeDoes(t *testing.T) { // 9.2
	check := func(s string) bool {
		v, rest, err := value.Decode(s)
		if err != api.OK {
			if err != api.ErrCode || !none(v) || rest != "" {
				t.Fatalf("Decode(%x) is %v, %x, %d, not ErrCode", s, v, rest, err)
			}
			return false
		}
		if value.Check(v) != api.OK || valueBytes(v)+rest != s {
			t.Fatalf("Decode(%x) is %v, %x: others' bytes", s, v, rest)
		}
		return true
	}
	// All short texts of some bytes.
	bytes := "\x00\x01\x02\x03\x04\x05\x06a\x81"
	l, many := []string{""}, 0
	for range 6 {
		var longer []string
		for _, s := range l {
			for i := range len(bytes) {
				longer = append(longer, s+bytes[i:i+1])
			}
		}
		l = longer
		for _, s := range l {
			if check(s) {
				many++
			}
		}
	}
	if many == 0 {
		t.Error("no text is a value's")
	}
	r := rand.New(rand.NewSource(92))
	for _, v := range rights() {
		s := []byte(valueBytes(v) + "rest")
		for range min(40, len(s)) {
			at := r.Intn(len(s))
			was := s[at]
			s[at] = byte(r.Intn(256))
			check(string(s))
			s[at] = was
		}
	}
}

func TestWhatIsEncodedIsDecoded(t *testing.T) { // 9.2, 9.5
	for _, v := range rights() {
		s, err := value.Encode(v)
		if err != api.OK {
			t.Fatalf("Encode(%v) is %d", v, err)
		}
		for _, behind := range []string{"", "z", "\x00", s, mixed(5000)} {
			x, rest, err := value.Decode(s + behind)
			if !same(x, v) || rest != behind || err != api.OK {
				t.Fatalf("Decode(%.40x) is %.100v, %.40x, %d, not %.100v, %.40x", s+behind, x, rest, err, v, behind)
			}
			if again, _ := value.Encode(x); again != s {
				t.Fatalf("Encode(%.100v) is %.40x, not %.40x", x, again, s)
			}
		}
	}
}
