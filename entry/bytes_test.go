package entry_test

import (
	"encoding/hex"
	"math/rand"
	"reflect"
	"slices"
	"strings"
	"testing"
	"unsafe"

	"bellman/api"
	"bellman/entry"
	"bellman/value"
	"bellman/wire"
)

// putText is a text's bytes.
func putText(s string) string {
	all, _ := wire.Text(s)
	return all
}

// putNums are numbers' bytes, one behind the other.
func putNums(l ...int64) string {
	all := ""
	for _, n := range l {
		all += wire.Num(n)
	}
	return all
}

// putList is a list's bytes.
func putList(l ...int64) string {
	return wire.Num(int64(len(l))) + putNums(l...)
}

// zoneNums are a zone's numbers, and weekNums a week's.
func zoneNums(z api.Zone) []int64 {
	return []int64{
		int64(z.Base), int64(z.Save),
		int64(z.From.Month), int64(z.From.Nth), int64(z.From.Weekday), int64(z.From.Minute),
		int64(z.To.Month), int64(z.To.Nth), int64(z.To.Weekday), int64(z.To.Minute),
	}
}

func weekNums(week []api.Range) []int64 {
	var all []int64
	for _, r := range week {
		all = append(all, int64(r.From), int64(r.To))
	}
	return all
}

// categoryNums are a category's numbers.
func categoryNums(c api.Category) []int64 {
	all := []int64{0, c.Window, int64(c.Bound)}
	if c.Critical {
		all[0] = 1
	}
	for _, l := range c.Chain {
		all = append(all, int64(l.Channel), l.Wait, int64(l.Tries), l.Pause)
	}
	return all
}

// bytesOf are a command's bytes, kind by kind.
func bytesOf(c api.Command) string {
	kind := wire.Num(int64(c.Kind))
	switch c.Kind {
	case api.CommandUser:
		return kind + putText(c.User) + putList(zoneNums(c.Quiet.Zone)...) + putList(weekNums(c.Quiet.Week)...)
	case api.CommandOff, api.CommandOn:
		return kind + putText(c.User) + putText(c.Out.Category) + putNums(int64(c.Out.Channel))
	case api.CommandCategory:
		return kind + putText(c.Category.Name) + putText(c.Category.Source) + putList(categoryNums(c.Category)...)
	case api.CommandEvent:
		data, _ := value.Encode(c.Data)
		return kind + putText(c.User) + putText(c.Name) + data
	case api.CommandAck:
		return kind + putNums(c.Ref)
	case api.CommandResult:
		if c.Good {
			return kind + putNums(c.Ref, 1)
		}
		return kind + putNums(c.Ref, 0)
	case api.CommandClock:
		return kind + putNums(c.Seconds)
	}
	return kind
}

func TestCommandsAsBytes(t *testing.T) { // 24.1, 24.3
	for _, c := range []struct {
		command api.Command
		bytes   string
	}{
		{api.Command{Kind: api.CommandClock, Seconds: 60}, "0108 013c"},
		{api.Command{Kind: api.CommandClock, Seconds: -1}, "0108 8101"},
		{api.Command{Kind: api.CommandPrune}, "0109"},
		{api.Command{Kind: api.CommandAck, Ref: 300}, "0106 02012c"},
		{api.Command{Kind: api.CommandResult, Ref: 300}, "0107 02012c 00"},
		{api.Command{Kind: api.CommandResult, Ref: 300, Good: true}, "0107 02012c 0101"},
		{api.Command{Kind: api.CommandOff, User: "ann"}, "0102 0103616e6e 00 00"},
		{api.Command{Kind: api.CommandOn, User: "ann", Out: api.Out{Category: "x", Channel: 3}}, "0103 0103616e6e 010178 0103"},
		{api.Command{Kind: api.CommandEvent, User: "ann", Name: "x", Data: num(5)}, "0105 0103616e6e 010178 02 0105"},
		{api.Command{Kind: api.CommandUser, User: "a"}, "0101 010161 010a 00000000000000000000 00"},
		{api.Command{Kind: api.CommandUser, User: "a", Quiet: api.Quiet{Zone: api.Zone{Base: -1}, Week: []api.Range{{From: 0, To: 7}, {From: 300, To: 301}}}}, "0101 010161 010a 8101 000000000000000000 0104 00 0107 02012c 02012d"},
		{api.Command{Kind: api.CommandUser, User: "a", Quiet: berlin()}, "0101 010161 010a 013c 013c 0103 0105 00 0178 010a 0105 0106 01b4 00"},
		{api.Command{Kind: api.CommandCategory, Category: api.Category{Name: "x", Chain: []api.Level{{Channel: 2, Wait: 7, Tries: 3, Pause: 9}}, Source: "hi"}}, "0104 010178 01026869 0107 00 00 00 0102 0107 0103 0109"},
		{api.Command{Kind: api.CommandCategory, Category: api.Category{Name: "x", Critical: true, Window: 60, Bound: 4, Chain: []api.Level{{Channel: 1, Tries: 1, Pause: 1}, {Channel: 3, Wait: 5, Tries: 2, Pause: 8}}}}, "0104 010178 00 010b 0101 013c 0104 0101 00 0101 0101 0103 0105 0102 0108"},
	} {
		want, _ := hex.DecodeString(strings.ReplaceAll(c.bytes, " ", ""))
		if s, err := entry.Encode(c.command); s != string(want) || err != api.OK {
			t.Errorf("Encode of %+v is %x, %d, not %x", c.command, s, err, want)
		}
		if d, err := entry.Decode(string(want)); told(d) != told(c.command) || err != api.OK {
			t.Errorf("Decode of %x is %+v, %d, not %+v", want, d, err, c.command)
		}
	}
}

func TestThereAndBack(t *testing.T) { // 24.1, 24.3
	for _, c := range rights() {
		want := bytesOf(c)
		s, err := entry.Encode(c)
		if s != want || err != api.OK {
			t.Fatalf("Encode of %+v is %x, %d, not %x", c, s, err, want)
		}
		if d, err := entry.Decode(s); told(d) != told(c) || err != api.OK {
			t.Fatalf("Decode of %x is %+v, %d, not %+v", s, d, err, c)
		}
	}
}

func TestEncodeRefuses(t *testing.T) { // 24.1
	for name, c := range wrongs() {
		if s, err := entry.Encode(c); s != "" || err != api.ErrForm {
			t.Errorf("%s: Encode is %x, %d, not ErrForm", name, s, err)
		}
	}
}

// refuse fails, if those bytes are any command's.
func refuse(t *testing.T, s string) {
	t.Helper()
	if c, err := entry.Decode(s); told(c) != told(api.Command{}) || err != api.ErrCode {
		t.Errorf("Decode of %.200x is %+v, %d, not ErrCode", s, c, err)
	}
}

func TestDecodeRefusesBytesThatAreCutOff(t *testing.T) { // 24.1
	for _, c := range rights() {
		s := bytesOf(c)
		for i := range min(len(s), 1200) {
			refuse(t, s[:i])
		}
		for _, more := range []string{"\x00", "x", s, strings.Repeat("\x00", 5000)} {
			refuse(t, s+more)
			if more != s {
				refuse(t, more+s)
			}
		}
	}
}

func TestDecodeRefusesWhatIsNotRight(t *testing.T) { // 24.1
	for name, c := range wrongs() {
		if name == "kind 5: data within data" || strings.Contains(name, "with more") || name == "kind 9: data within none" {
			continue
		}
		refuse(t, bytesOf(c))
	}
	kind := func(n int64) string { return wire.Num(n) }
	for _, s := range []string{
		// Numbers that are too great for what has them.
		kind(256 + 9), kind(-247), kind(1<<32 + 9), kind(256+8) + putNums(60), kind(256),
		kind(2) + putText("ann") + putText("") + putNums(256),
		kind(2) + putText("ann") + putText("") + putNums(257),
		kind(2) + putText("ann") + putText("") + putNums(-255),
		kind(1) + putText("ann") + putList(1<<32, 0, 0, 0, 0, 0, 0, 0, 0, 0) + putList(),
		kind(4) + putText("x") + putText("") + putList(0, 0, 0, 257, 0, 1, 1),
		kind(4) + putText("x") + putText("") + putList(0, 0, 0, 1, 0, 1<<32+1, 1),
		kind(4) + putText("x") + putText("") + putList(0, 60, 1<<32+1, 1, 0, 1, 1),
		// What is neither 0 nor 1.
		kind(7) + putNums(5, 2), kind(7) + putNums(5, -1), kind(7) + putNums(5, 256), kind(7) + putNums(5, 1<<32+1),
		kind(4) + putText("x") + putText("") + putList(2, 0, 0, 1, 0, 1, 1),
		kind(4) + putText("x") + putText("") + putList(-1, 0, 0, 1, 0, 1, 1),
		// Lists that have too few, or too many.
		kind(1) + putText("ann") + putList() + putList(),
		kind(1) + putText("ann") + putList(0) + putList(),
		kind(1) + putText("ann") + putList(0, 0) + putList(),
		kind(1) + putText("ann") + putList(0, 0, 0, 0, 0, 0) + putList(),
		kind(1) + putText("ann") + putList(make([]int64, 9)...) + putList(),
		kind(1) + putText("ann") + putList(make([]int64, 11)...) + putList(),
		kind(1) + putText("ann") + putList(make([]int64, 14)...) + putList(),
		kind(1) + putText("ann") + putList(make([]int64, 10)...) + putList(0),
		kind(1) + putText("ann") + putList(make([]int64, 10)...) + putList(0, 5, 10),
		kind(1) + putText("ann") + putList(make([]int64, 10)...) + putList(weekNums(ranges(65))...),
		kind(1) + putText("ann") + putList(make([]int64, 10)...) + putList(make([]int64, 1024)...),
		kind(1) + putText("ann") + putList(make([]int64, 10)...) + putList(make([]int64, 1025)...),
		kind(4) + putText("x") + putText("") + putList(),
		kind(4) + putText("x") + putText("") + putList(0),
		kind(4) + putText("x") + putText("") + putList(0, 0),
		kind(4) + putText("x") + putText("") + putList(0, 0, 0),
		kind(4) + putText("x") + putText("") + putList(0, 0, 0, 1),
		kind(4) + putText("x") + putText("") + putList(0, 0, 0, 1, 0, 1),
		kind(4) + putText("x") + putText("") + putList(0, 0, 0, 1, 0, 1, 1, 1),
		kind(4) + putText("x") + putText("") + putList(0, 0, 0, 1, 0, 1, 1, 1, 0, 1),
		// Numbers that have other bytes than theirs, and none.
		"\x02\x00\x09", "\x80\x09", "\x09", "\xff", "\x01\x08\x02\x00\x3c", "\x01\x08\x80", "\x01\x08\x09",
		// Texts that are too long, or have no length.
		kind(1) + "\x02\x10\x01" + strings.Repeat("a", 4097), kind(1) + "\x81\x01a", kind(1) + "\x02\x00\x03ann",
		kind(5) + putText("ann") + putText("x") + "\x00", kind(5) + putText("ann") + putText("x") + "\x06\x00", kind(5) + putText("ann") + putText("x") + "\x03\x01\x02",
		"", "\x00", "x", strings.Repeat("\x01", 3000), strings.Repeat("\xff", 3000),
	} {
		refuse(t, s)
	}
}

func TestAnyBytesAreDecodedJustAsTheyAreEncoded(t *testing.T) { // 24.1, 24.3
	r := rand.New(rand.NewSource(24))
	all := rights()
	decoded, refused := 0, 0
	for range 60000 {
		s := []byte(bytesOf(all[r.Intn(len(all))]))
		for range r.Intn(3) {
			i := r.Intn(len(s))
			switch r.Intn(4) {
			case 0:
				s[i] = byte(r.Intn(256))
			case 1:
				s[i] += byte(r.Intn(3)) - 1
			case 2:
				s = slices.Delete(s, i, i+1)
			case 3:
				s = slices.Insert(s, i, byte(r.Intn(4)))
			}
			if len(s) == 0 {
				s = append(s, 1)
			}
		}
		c, err := entry.Decode(string(s))
		if err != api.OK {
			refused++
			if told(c) != told(api.Command{}) || err != api.ErrCode {
				t.Fatalf("Decode of %x is %+v, %d", s, c, err)
			}
			continue
		}
		decoded++
		if entry.Check(c) != api.OK || bytesOf(c) != string(s) {
			t.Fatalf("Decode of %x is %+v", s, c)
		}
	}
	if decoded < 20000 || refused < 20000 {
		t.Errorf("%d are decoded, and %d not", decoded, refused)
	}
}

// grown is the list in memory of its own, with room behind it, in which the last part stands once more.
func grown[P any](l ...P) []P {
	return append(append([]P{}, l...), l[len(l)-1])[:len(l)]
}

// places are where all texts and lists within v are.
func places(v reflect.Value) []unsafe.Pointer {
	var all []unsafe.Pointer
	switch v.Kind() {
	case reflect.String:
		if v.Len() > 0 {
			all = append(all, unsafe.Pointer(unsafe.StringData(v.String())))
		}
	case reflect.Slice:
		if v.Cap() > 0 {
			all = append(all, v.UnsafePointer())
		}
		for i := range v.Len() {
			all = append(all, places(v.Index(i))...)
		}
	case reflect.Struct:
		for i := range v.NumField() {
			all = append(all, places(v.Field(i))...)
		}
	}
	return all
}

// roomy are right commands in memory of their own, with room behind each list.
func roomy() []api.Command {
	c := categories()[0]
	c.Name, c.Source, c.Chain = strings.Clone("news"), strings.Clone(c.Source), grown(c.Chain...)
	return []api.Command{
		{Kind: api.CommandUser, User: strings.Clone("ann"), Quiet: berlin(grown(ranges(3)...)...)},
		{Kind: api.CommandOff, User: strings.Clone("ann"), Out: api.Out{Category: strings.Clone("news")}},
		{Kind: api.CommandCategory, Category: c},
		{Kind: api.CommandEvent, User: strings.Clone("ann"), Name: strings.Clone("news"), Data: list(grown(text(strings.Clone("x")), num(1))...)},
	}
}

func TestAnswersAreNewMemory(t *testing.T) { // 24.2
	var all []any
	for _, c := range roomy() {
		s, _ := entry.Encode(c)
		all = append(all, c, s)
		before := told(c)
		for range 2 {
			d, _ := entry.Decode(s)
			user, _ := entry.User(c)
			again, _ := entry.Encode(c)
			all = append(all, d, user, again)
		}
		if told(c) != before {
			t.Errorf("what was handed in is changed: %+v", c)
		}
	}
	// No text or list of an answer is within another one's memory, either.
	var spans [][2]uintptr
	for _, of := range all {
		if s, is := of.(string); is && s != "" {
			at := uintptr(unsafe.Pointer(unsafe.StringData(s)))
			spans = append(spans, [2]uintptr{at, at + uintptr(len(s))})
		}
	}
	seen := map[unsafe.Pointer]int{}
	for i, of := range all {
		for _, p := range places(reflect.ValueOf(of)) {
			if seen[p]++; seen[p] > 1 {
				t.Fatalf("answer %d shares memory: %+v", i, of)
			}
			for _, span := range spans {
				if uintptr(p) > span[0] && uintptr(p) < span[1] {
					t.Fatalf("answer %d is a piece of another one: %+v", i, of)
				}
			}
		}
	}
}

func TestWhatIsHandedInStaysAsItWas(t *testing.T) { // 24.2
	all := roomy()
	behind := func() string {
		return told(all[0].Quiet.Week[:4], all[2].Category.Chain[:3], all[3].Data.Items[:3])
	}
	before := behind()
	for _, c := range all {
		entry.Check(c)
		entry.Encode(c)
		entry.User(c)
	}
	if behind() != before {
		t.Error("what was handed in is changed")
	}
}
