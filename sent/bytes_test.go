package sent_test

import (
	"math"
	"math/rand"
	"strings"
	"testing"
	"unsafe"

	"bellman/api"
	"bellman/sent"
	"bellman/wire"
)

// raw are bytes as those of a message, of any numbers and texts.
func raw(id, flow, channel, rank, try, at int64, user, category, say string) string {
	all := wire.Num(id) + wire.Num(flow) + wire.Num(channel) + wire.Num(rank) + wire.Num(try) + wire.Num(at)
	for _, s := range []string{user, category, say} {
		all += wire.Num(int64(len(s))) + s
	}
	return all
}

// bytes are those of a message, right or not.
func bytes(m api.Message) string {
	return raw(m.Id, m.Flow, int64(m.Channel), int64(m.Rank), int64(m.Try), m.At, m.User, m.Category, m.Text)
}

func TestEncodeTellsBytes(t *testing.T) { // 22.2
	want := "\x01\x07\x01\x02\x01\x02\x01\x01\x01\x03\x01\x3c\x01\x03ann\x01\x04news\x01\x06ann: 2"
	if s, err := sent.Encode(message()); s != want || err != api.OK {
		t.Errorf("Encode is %x, %d, not %x", s, err, want)
	}
	for _, m := range rights() {
		if s, err := sent.Encode(m); s != bytes(m) || err != api.OK {
			t.Errorf("Encode of %+v is %x, %d", m, s, err)
		}
	}
	for name, m := range wrongs() {
		if s, err := sent.Encode(m); s != "" || err != api.ErrForm {
			t.Errorf("%s: Encode is %.40x, %d, not ErrForm", name, s, err)
		}
	}
}

func TestWhatIsEncodedIsDecoded(t *testing.T) { // 22.2, 22.5
	for _, m := range rights() {
		s, _ := sent.Encode(m)
		for _, behind := range []string{"", "z", "\x00", s, strings.Repeat("more", 5000)} {
			if back, rest, err := sent.Decode(s + behind); back != m || rest != behind || err != api.OK {
				t.Errorf("Decode of %+v, and %d bytes more, is %+v, %d bytes, %d", m, len(behind), back, len(rest), err)
			}
		}
	}
}

// undecoded fails, if a message is decoded.
func undecoded(t *testing.T, s string) {
	t.Helper()
	if m, rest, err := sent.Decode(s); m != (api.Message{}) || rest != "" || err != api.ErrCode {
		t.Errorf("Decode of %.60x is %+v, %.60x, %d, not ErrCode", s, m, rest, err)
	}
}

func TestDecodeRefuses(t *testing.T) { // 22.2
	for name, m := range wrongs() {
		if back, rest, err := sent.Decode(bytes(m) + "z"); back != (api.Message{}) || rest != "" || err != api.ErrCode {
			t.Errorf("%s: Decode is %+v, %.40x, %d, not ErrCode", name, back, rest, err)
		}
	}
	for _, m := range rights() {
		s := bytes(m)
		for n := range len(s) {
			if back, rest, err := sent.Decode(s[:n]); back != (api.Message{}) || rest != "" || err != api.ErrCode {
				t.Fatalf("Decode of %d bytes of %+v is %+v, %x, %d, not ErrCode", n, m, back, rest, err)
			}
		}
	}
	// Numbers that would be right if they lost their highest bits.
	for _, more := range []int64{1 << 8, 1 << 16, 1 << 32, 1 << 40, 1 << 56, math.MinInt64, -256, -(1 << 32)} {
		undecoded(t, raw(7, 2, 2+more, 1, 3, 60, "ann", "news", "x"))
		undecoded(t, raw(7, 2, 2, 1+more, 3, 60, "ann", "news", "x"))
		undecoded(t, raw(7, 2, 2, 1, 3+more, 60, "ann", "news", "x"))
		undecoded(t, raw(7, 2, 2, more, 3, 60, "ann", "news", "x"))
		undecoded(t, raw(7, 2, more, 1, 3, 60, "ann", "news", "x"))
	}
	// Numbers that have other bytes than wire.Num tells.
	for _, seven := range []string{"\x02\x00\x07", "\x08\x00\x00\x00\x00\x00\x00\x00\x07", "\x09\x07", "\x80\x07"} {
		undecoded(t, seven+bytes(message())[2:])
	}
	// Texts whose length is none, or more than there is.
	head := bytes(message())[:12]
	for _, length := range []string{"\x81\x03", "\x00", "\x01\x04", "\x02\x00\x03", "\x02\x10\x01", "\x08\x7f\xff\xff\xff\xff\xff\xff\xff"} {
		undecoded(t, head+length+"ann")
		undecoded(t, head+length+"ann\x01\x04new")
	}
}

func TestDecodeOfAnyBytes(t *testing.T) { // 22.2, 22.5
	r := rand.New(rand.NewSource(22))
	all, fine := rights(), 0
	for range 100000 {
		s := []byte(bytes(all[r.Intn(len(all))]))
		for range 1 + r.Intn(2) {
			s[r.Intn(min(len(s), 40))] = byte(r.Intn(1 << uint(1+r.Intn(8))))
		}
		m, rest, err := sent.Decode(string(s))
		if err != api.OK {
			if m != (api.Message{}) || rest != "" || err != api.ErrCode {
				t.Fatalf("Decode of %x is %+v, %x, %d", s, m, rest, err)
			}
			continue
		}
		fine++
		if sent.Check(m) != api.OK || bytes(m)+rest != string(s) {
			t.Fatalf("Decode of %x is %+v, %x", s, m, rest)
		}
	}
	if fine < 1000 {
		t.Errorf("%d were decoded", fine)
	}
}

// places are where the messages have their texts.
func places(l ...api.Message) []unsafe.Pointer {
	var all []unsafe.Pointer
	for _, m := range l {
		for _, s := range []string{m.User, m.Category, m.Text} {
			if s != "" {
				all = append(all, unsafe.Pointer(unsafe.StringData(s)))
			}
		}
	}
	return all
}

// placesOf are where a value has its texts and lists.
func placesOf(v api.Value) []unsafe.Pointer {
	all := places(append([]api.Message{{Text: v.Text}}, named(v.Names)...)...)
	if cap(v.Names) > 0 {
		all = append(all, unsafe.Pointer(unsafe.SliceData(v.Names)))
	}
	if cap(v.Items) > 0 {
		all = append(all, unsafe.Pointer(unsafe.SliceData(v.Items)))
	}
	for _, item := range v.Items {
		all = append(all, placesOf(item)...)
	}
	return all
}

// named are messages that have nothing but those names.
func named(l []string) []api.Message {
	var all []api.Message
	for _, s := range l {
		all = append(all, api.Message{User: s})
	}
	return all
}

// own is m in new memory.
func own(m api.Message) api.Message {
	m.User, m.Category, m.Text = strings.Clone(m.User), strings.Clone(m.Category), strings.Clone(m.Text)
	return m
}

func TestAnswersAreNewMemory(t *testing.T) { // 22.4
	f, c := sending(), chained(strings.Clone("plain text"), 1, 2)
	f.User, f.Category, c.Name = strings.Clone(f.User), strings.Clone(f.Category), strings.Clone(c.Name)
	items := append([]api.Value{text(strings.Clone("item")), list(text(strings.Clone("inner")))}, num(777))[:2]
	before := told(f, c, items[:3])
	l := []api.Message{own(message()), own(message()), own(with(func(m *api.Message) { m.Id = 9 })), own(with(func(m *api.Message) { m.Id = 10 }))}[:3]
	s, _ := sent.Encode(message())
	s += "rest"
	all := places(append(l[:4:4], api.Message{User: f.User, Category: f.Category, Text: c.Source}, api.Message{User: c.Name, Text: s})...)
	for _, item := range items {
		all = append(all, placesOf(item)...)
	}
	all = append(all, unsafe.Pointer(unsafe.SliceData(items)), unsafe.Pointer(unsafe.SliceData(l)))
	for range 2 {
		v, _ := sent.Fill(f, c, items...)
		m, _ := sent.Make(7, f, c, 60, items...)
		back, rest, _ := sent.Decode(s)
		put, _ := sent.Encode(l[0])
		once, _, _ := sent.Once(l)
		all = append(append(all, placesOf(v)...), places(append(once, m, back, api.Message{User: rest, Text: put})...)...)
		all = append(all, unsafe.Pointer(unsafe.SliceData(once)))
	}
	seen := map[unsafe.Pointer]int{}
	for i, p := range all {
		if seen[p]++; seen[p] > 1 {
			t.Fatalf("place %d of %d is twice", i, len(all))
		}
	}
	if told(f, c, items[:3]) != before || l[:4][3].Id != 10 {
		t.Error("what was handed in is changed")
	}
	// Nor is a text a piece of what it was decoded from.
	begin, end := uintptr(unsafe.Pointer(unsafe.StringData(s))), uintptr(len(s))
	back, rest, _ := sent.Decode(s)
	for _, p := range places(back, api.Message{Text: rest}) {
		if at := uintptr(p); at >= begin && at < begin+end {
			t.Error("an answer is a piece of what was handed in")
		}
	}
}

func TestListsAreNewMemory(t *testing.T) { // 22.4
	l := []api.Message{message(), message(), with(func(m *api.Message) { m.Id = 9 })}
	items := []api.Value{list(num(1), num(2)), num(3)}
	before := told(l, items)
	one, _, _ := sent.Once(l)
	two, _, _ := sent.Once(l)
	v, _ := sent.Fill(sending(), chained("", 1, 2), items...)
	w, _ := sent.Fill(sending(), chained("", 1, 2), items...)
	kept := told(two, w)
	for i := range one[:cap(one)] {
		one[:cap(one)][i] = api.Message{Text: "changed"}
	}
	for i := range v.Items {
		if inner := v.Items[i].Items; len(inner) > 0 {
			inner[0].Items = append(inner[0].Items, num(9))
			inner[0].Kind = 99
		}
		v.Items[i], v.Names[i] = num(99), "changed"
	}
	if told(two, w) != kept || told(l, items) != before {
		t.Error("an answer shares its list")
	}
}
