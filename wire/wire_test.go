package wire

import (
	"math"
	"math/big"
	"math/rand"
	"slices"
	"strings"
	"testing"
	"unsafe"

	"bellman/api"
)

// mixed is a text of n bytes, of which none is like the ones beside it.
func mixed(n int) string {
	var all strings.Builder
	for i := range n {
		all.WriteByte(byte(i*7 + i>>8))
	}
	return all.String()
}

// someNums are numbers about every edge: the powers of 2, one more and one less, and some between.
func someNums() []int64 {
	l := []int64{0, 300, -300, math.MaxInt64, math.MinInt64, math.MinInt64 + 1}
	for i := range 63 {
		p := int64(1) << i
		l = append(l, p-1, p, p+1, -p-1, -p, -p+1)
	}
	r := rand.New(rand.NewSource(1))
	for range 500 {
		l = append(l, int64(r.Uint64())>>r.Intn(64))
	}
	return l
}

// wordsOf is a number's bytes, reckoned from the document's words by another way.
func wordsOf(n int64) string {
	magnitude := new(big.Int).Abs(big.NewInt(n)).Bytes()
	head := byte(len(magnitude))
	if n < 0 {
		head += 128
	}
	return string(append([]byte{head}, magnitude...))
}

func TestNumPutsHeadAndMagnitude(t *testing.T) { // 1.1
	for n, want := range map[int64]string{
		0:              "\x00",
		1:              "\x01\x01",
		-1:             "\x81\x01",
		255:            "\x01\xff",
		256:            "\x02\x01\x00",
		300:            "\x02\x01\x2c",
		-256:           "\x82\x01\x00",
		1 << 40:        "\x06\x01\x00\x00\x00\x00\x00",
		math.MaxInt64:  "\x08\x7f\xff\xff\xff\xff\xff\xff\xff",
		-math.MaxInt64: "\x88\x7f\xff\xff\xff\xff\xff\xff\xff",
		math.MinInt64:  "\x88\x80\x00\x00\x00\x00\x00\x00\x00",
	} {
		if got := Num(n); got != want {
			t.Errorf("Num(%d) is %x, not %x", n, got, want)
		}
	}
	for _, n := range someNums() {
		if got := Num(n); got != wordsOf(n) {
			t.Errorf("Num(%d) is %x, not %x", n, got, wordsOf(n))
		}
	}
}

func TestGetNumTellsWhatIsWrong(t *testing.T) { // 1.1
	long := strings.Repeat("\x01", 200)
	for _, c := range []struct {
		s    string
		want api.Errno
	}{
		{"", api.ErrShort},
		{"\x09", api.ErrCode},
		{"\x09" + long, api.ErrCode},
		{"\x7f" + long, api.ErrCode},
		{"\x89" + long, api.ErrCode},
		{"\xff" + long, api.ErrCode},
		{"\x01", api.ErrShort},
		{"\x81", api.ErrShort},
		{"\x02\x01", api.ErrShort},
		{"\x02\x00", api.ErrShort}, // too few bytes are told ahead of a first one of 0
		{"\x08\xff\xff\xff\xff\xff\xff\xff", api.ErrShort},
		{"\x01\x00", api.ErrCode},
		{"\x81\x00", api.ErrCode},
		{"\x02\x00\x01", api.ErrCode},
		{"\x80", api.ErrCode},
		{"\x80\x01", api.ErrCode},
		{"\x08\x80\x00\x00\x00\x00\x00\x00\x00", api.ErrCode},
		{"\x08\xff\xff\xff\xff\xff\xff\xff\xff", api.ErrCode},
		{"\x88\x80\x00\x00\x00\x00\x00\x00\x01", api.ErrCode},
		{"\x88\xff\xff\xff\xff\xff\xff\xff\xff", api.ErrCode},
	} {
		n, rest, err := GetNum(c.s)
		if err != c.want || n != 0 || rest != "" {
			t.Errorf("GetNum(%x) is %d, %x, %d, not 0, nothing, %d", c.s, n, rest, err, c.want)
		}
	}
}

func TestTextPutsLengthAndText(t *testing.T) { // 1.2
	for _, c := range []struct{ s, want string }{
		{"", "\x00"},
		{"ab", "\x01\x02ab"},
		{"\x00\xff\xc3", "\x01\x03\x00\xff\xc3"},
		{mixed(300), "\x02\x01\x2c" + mixed(300)},
		{mixed(api.MaxText), "\x02\x10\x00" + mixed(api.MaxText)},
	} {
		got, err := Text(c.s)
		if got != c.want || err != api.OK {
			t.Errorf("Text of %d bytes is %.20x, %d, not %.20x", len(c.s), got, err, c.want)
		}
	}
	got, err := Text(mixed(api.MaxText + 1))
	if got != "" || err != api.ErrLong {
		t.Errorf("Text of one byte too many is %.20x, %d, not ErrLong", got, err)
	}
}

func TestGetTextTellsWhatIsWrong(t *testing.T) { // 1.2
	for _, c := range []struct {
		s    string
		want api.Errno
	}{
		{"", api.ErrShort},
		{"\x01", api.ErrShort},
		{"\x02\x01", api.ErrShort},
		{"\x09abcdefghij", api.ErrCode},
		{"\x01\x00a", api.ErrCode},
		{"\x80a", api.ErrCode},
		{"\x81\x01a", api.ErrCode},
		{Num(math.MinInt64) + "a", api.ErrCode},
		{"\x82\x10\x01" + mixed(api.MaxText+1), api.ErrCode},
		{"\x02\x10\x01" + mixed(api.MaxText+1), api.ErrLong},
		{"\x02\x10\x01", api.ErrLong}, // too long is told ahead of too short
		{Num(1<<32 + 1), api.ErrLong},
		{Num(math.MaxInt64), api.ErrLong},
		{"\x01\x01", api.ErrShort},
		{"\x01\x03ab", api.ErrShort},
		{"\x02\x10\x00" + mixed(api.MaxText-1), api.ErrShort},
	} {
		text, rest, err := GetText(c.s)
		if err != c.want || text != "" || rest != "" {
			t.Errorf("GetText(%.20x) is %.20x, %.20x, %d, not %d", c.s, text, rest, err, c.want)
		}
	}
}

func TestNumsAndTextsPutHowMany(t *testing.T) { // 1.3
	for _, c := range []struct {
		l    []int64
		want string
	}{
		{nil, "\x00"},
		{[]int64{}, "\x00"},
		{[]int64{0}, "\x01\x01\x00"},
		{[]int64{1, -1, 300}, "\x01\x03\x01\x01\x81\x01\x02\x01\x2c"},
		{make([]int64, api.MaxList), "\x02\x04\x00" + strings.Repeat("\x00", api.MaxList)},
	} {
		if got, err := Nums(c.l...); got != c.want || err != api.OK {
			t.Errorf("Nums of %d is %.20x, %d, not %.20x", len(c.l), got, err, c.want)
		}
	}
	for _, c := range []struct {
		l    []string
		want string
	}{
		{nil, "\x00"},
		{[]string{}, "\x00"},
		{[]string{""}, "\x01\x01\x00"},
		{[]string{"ab", "", "\x00"}, "\x01\x03\x01\x02ab\x00\x01\x01\x00"},
		{[]string{"", mixed(api.MaxText)}, "\x01\x02\x00\x02\x10\x00" + mixed(api.MaxText)},
		{make([]string, api.MaxList), "\x02\x04\x00" + strings.Repeat("\x00", api.MaxList)},
	} {
		if got, err := Texts(c.l...); got != c.want || err != api.OK {
			t.Errorf("Texts of %d is %.20x, %d, not %.20x", len(c.l), got, err, c.want)
		}
	}
}

func TestNumsAndTextsRefuseTooMuch(t *testing.T) { // 1.3
	if got, err := Nums(make([]int64, api.MaxList+1)...); got != "" || err != api.ErrLong {
		t.Errorf("Nums of one too many is %.20x, %d, not ErrLong", got, err)
	}
	for _, l := range [][]string{
		make([]string, api.MaxList+1),
		{mixed(api.MaxText + 1)},
		{"a", "", mixed(api.MaxText + 1)},
		{mixed(api.MaxText + 1), "a"},
	} {
		if got, err := Texts(l...); got != "" || err != api.ErrLong {
			t.Errorf("Texts of %d is %.20x, %d, not ErrLong", len(l), got, err)
		}
	}
}

func TestGetListsTellWhatIsWrong(t *testing.T) { // 1.3
	zeros := strings.Repeat("\x00", api.MaxList+1)
	both := []struct {
		s    string
		want api.Errno
	}{
		{"", api.ErrShort},
		{"\x01", api.ErrShort},
		{"\x0a" + zeros, api.ErrCode},
		{"\x01\x00" + zeros, api.ErrCode},
		{"\x80" + zeros, api.ErrCode},
		{"\x81\x01" + zeros, api.ErrCode},
		{Num(math.MinInt64) + zeros, api.ErrCode},
		{"\x02\x04\x01" + zeros, api.ErrLong},
		{"\x02\x04\x01", api.ErrLong}, // too many is told ahead of too few bytes
		{Num(1<<32+1) + zeros, api.ErrLong},
		{Num(math.MaxInt64) + zeros, api.ErrLong},
		{"\x01\x01", api.ErrShort},
		{"\x02\x04\x00" + zeros[:api.MaxList-1], api.ErrShort},
		{"\x01\x02\x00\x01", api.ErrShort},
		{"\x01\x02\x00\x09", api.ErrCode},
		{"\x01\x02\x00\x80", api.ErrCode},
		{"\x01\x02\x00\x01\x00", api.ErrCode},
		{"\x01\x03\x00\x80\x01", api.ErrCode}, // the first part that is wrong is told
		{"\x01\x03\x00\x01", api.ErrShort},
	}
	for _, c := range both {
		if l, rest, err := GetNums(c.s); err != c.want || len(l) != 0 || rest != "" {
			t.Errorf("GetNums(%.20x) is %d, %.20x, %d, not %d", c.s, l, rest, err, c.want)
		}
		if l, rest, err := GetTexts(c.s); err != c.want || len(l) != 0 || rest != "" {
			t.Errorf("GetTexts(%.20x) is %q, %.20x, %d, not %d", c.s, l, rest, err, c.want)
		}
	}
	for _, c := range []struct {
		s    string
		want api.Errno
	}{
		{"\x01\x02\x00\x81\x01a", api.ErrCode},
		{"\x01\x02\x00\x02\x10\x01" + mixed(api.MaxText+1), api.ErrLong},
		{"\x01\x02\x00\x01\x02a", api.ErrShort},
		{"\x01\x02\x02\x10\x01\x80", api.ErrLong},
		{"\x01\x02\x80\x02\x10\x01", api.ErrCode},
	} {
		if l, rest, err := GetTexts(c.s); err != c.want || len(l) != 0 || rest != "" {
			t.Errorf("GetTexts(%.20x) is %q, %.20x, %d, not %d", c.s, l, rest, err, c.want)
		}
	}
}

// place is where a text's bytes are, and how far they go.
func place(s string) (uintptr, uintptr) {
	p := uintptr(unsafe.Pointer(unsafe.StringData(s)))
	return p, p + uintptr(len(s))
}

// apart tells whether no two of the texts share memory.
func apart(l ...string) bool {
	for i, a := range l {
		for _, b := range l[:i] {
			a1, a2 := place(a)
			b1, b2 := place(b)
			if a1 < b2 && b1 < a2 {
				return false
			}
		}
	}
	return true
}

func TestAnswersAreNewMemory(t *testing.T) { // 1.4
	in, behind := mixed(50), mixed(30)
	put, _ := Text(in)
	again, _ := Text(in)
	if !apart(in, put, again) {
		t.Error("Text shares memory")
	}
	s := put + behind
	text, rest, _ := GetText(s)
	text2, rest2, _ := GetText(s)
	_, rest3, _ := GetNum(Num(5) + s)
	if !apart(s, text, rest, text2, rest2, rest3) {
		t.Error("GetText shares memory")
	}
	s = Num(300) + behind
	_, rest, _ = GetNum(s)
	_, rest2, _ = GetNum(s)
	if !apart(s, rest, rest2) {
		t.Error("GetNum shares memory")
	}
	put, _ = Texts(in, in, behind)
	again, _ = Texts(in, in, behind)
	s = put + behind
	l, rest, _ := GetTexts(s)
	m, rest2, _ := GetTexts(s)
	if !apart(append(append(l, m...), in, behind, put, again, s, rest, rest2)...) {
		t.Error("Texts or GetTexts shares memory")
	}
}

func TestListsAreNewAndAsTheyWere(t *testing.T) { // 1.4
	nums := []int64{1, 2, 3}
	texts := []string{"a", "b"}
	s, _ := Nums(nums...)
	u, _ := Texts(texts...)
	if !slices.Equal(nums, []int64{1, 2, 3}) || !slices.Equal(texts, []string{"a", "b"}) {
		t.Error("what was handed in was changed")
	}
	nums[0], texts[0] = 9, "z"
	l, _, _ := GetNums(s)
	m, _, _ := GetTexts(u)
	l[0], m[0] = 7, "y"
	_, _ = append(l[:1], 8, 8), append(m[:1], "x")
	l2, _, _ := GetNums(s)
	m2, _, _ := GetTexts(u)
	if !slices.Equal(l2, []int64{1, 2, 3}) || !slices.Equal(m2, []string{"a", "b"}) {
		t.Errorf("a list is kept: %d, %q", l2, m2)
	}
}

func TestWhatWasPutIsGot(t *testing.T) { // 1.5
	for _, behind := range []string{"", "z", "\x01\x02ab", mixed(500)} {
		for _, n := range someNums() {
			got, rest, err := GetNum(Num(n) + behind)
			if got != n || rest != behind || err != api.OK {
				t.Fatalf("%d is got as %d, %x, %d", n, got, rest, err)
			}
		}
		for _, n := range []int{0, 1, 2, 255, 256, 300, api.MaxText - 1, api.MaxText} {
			s, _ := Text(mixed(n))
			got, rest, err := GetText(s + behind)
			if got != mixed(n) || rest != behind || err != api.OK {
				t.Fatalf("a text of %d bytes is got with %d, %x, %d", n, len(got), rest, err)
			}
		}
	}
}

func TestListsThatWerePutAreGot(t *testing.T) { // 1.5
	var many []string
	for i := range api.MaxList {
		many = append(many, mixed(i))
	}
	all := someNums()
	for _, behind := range []string{"", "z", mixed(500)} {
		for _, n := range []int{0, 1, 2, 255, 256, 500, len(all)} {
			s, _ := Nums(all[:n]...)
			l, rest, err := GetNums(s + behind)
			if !slices.Equal(l, all[:n]) || rest != behind || err != api.OK {
				t.Fatalf("%d numbers are got as %d, %x, %d", n, len(l), rest, err)
			}
		}
		for _, n := range []int{0, 1, 2, 255, 256, api.MaxList} {
			s, _ := Texts(many[:n]...)
			l, rest, err := GetTexts(s + behind)
			if !slices.Equal(l, many[:n]) || rest != behind || err != api.OK {
				t.Fatalf("%d texts are got as %d, %x, %d", n, len(l), rest, err)
			}
		}
	}
	s, _ := Nums(make([]int64, api.MaxList)...)
	if l, rest, err := GetNums(s + "z"); len(l) != api.MaxList || rest != "z" || err != api.OK {
		t.Errorf("as many numbers as may be are got as %d, %x, %d", len(l), rest, err)
	}
}

// checkBytes tells what is wrong, if something is got from s that has other bytes than those in s.
func checkBytes(t *testing.T, s string) {
	t.Helper()
	if n, rest, err := GetNum(s); err == api.OK && Num(n)+rest != s {
		t.Fatalf("GetNum(%x) is %d, %x", s, n, rest)
	}
	if text, rest, err := GetText(s); err == api.OK {
		if put, _ := Text(text); put+rest != s {
			t.Fatalf("GetText(%x) is %x, %x", s, text, rest)
		}
	}
	if l, rest, err := GetNums(s); err == api.OK {
		if put, _ := Nums(l...); put+rest != s {
			t.Fatalf("GetNums(%x) is %d, %x", s, l, rest)
		}
	}
	if l, rest, err := GetTexts(s); err == api.OK {
		if put, _ := Texts(l...); put+rest != s {
			t.Fatalf("GetTexts(%x) is %q, %x", s, l, rest)
		}
	}
}

func TestWhatIsGotHasItsBytes(t *testing.T) { // 1.5
	for i := range 1 << 16 {
		checkBytes(t, string([]byte{byte(i >> 8), byte(i)}))
		checkBytes(t, string([]byte{byte(i >> 8), byte(i), 0, 1, 2}))
	}
	// Few heads are right: bytes are taken from those that are, and are near.
	near := "\x00\x00\x01\x01\x02\x03\x08\x09\x7f\x80\x81\x82\x88\x89\xff"
	r := rand.New(rand.NewSource(2))
	for range 200000 {
		var s []byte
		for range r.Intn(16) {
			s = append(s, near[r.Intn(len(near))])
		}
		checkBytes(t, string(s))
	}
}

func TestNoBytesBeginOthers(t *testing.T) { // 1.6
	puts := map[string]int64{}
	for _, n := range someNums() {
		puts[Num(n)] = n
	}
	for s, n := range puts {
		for i := range len(s) {
			if m, ok := puts[s[:i]]; ok {
				t.Errorf("%d's bytes begin %d's", m, n)
			}
		}
		if m, rest, err := GetNum(s + s); m != n || rest != s || err != api.OK {
			t.Errorf("%d twice is got as %d, %x, %d", n, m, rest, err)
		}
	}
	texts := map[string]bool{}
	for i := range 600 {
		for _, text := range []string{mixed(i), strings.Repeat("\x00", i), strings.Repeat("\x01", i)} {
			s, _ := Text(text)
			texts[s] = true
		}
	}
	for s := range texts {
		for i := range len(s) {
			if texts[s[:i]] {
				t.Errorf("%x begins %x", s[:i], s)
			}
		}
	}
}

func TestAllNumsHaveBytesOfTheirOwn(t *testing.T) { // 1.6
	seen := map[string]int64{}
	for n := int64(-70000); n <= 70000; n++ {
		s := Num(n)
		if m, ok := seen[s]; ok {
			t.Fatalf("%d and %d have the same bytes", m, n)
		}
		seen[s] = n
	}
}
