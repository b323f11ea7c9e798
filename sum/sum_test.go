package sum

import (
	"hash/crc32"
	"math/rand"
	"strings"
	"testing"
	"unsafe"

	"bellman/api"
	"bellman/wire"
)

// mixed is a text of n bytes, of which none is like the ones beside it.
func mixed(n int) string {
	var all strings.Builder
	for i := range n {
		all.WriteByte(byte(i*7 + i>>8))
	}
	return all.String()
}

// wordsOf is a sum, bit by bit, as the document's words tell it.
func wordsOf(s string) uint32 {
	there := uint32(0xffffffff)
	for i := range len(s) {
		for bit := range 8 {
			out := uint32(s[i])>>bit&1 ^ there&1
			there >>= 1
			if out == 1 {
				there ^= 0x82f63b78
			}
		}
	}
	return ^there
}

// frame puts a frame's parts behind each other, whether they are right or not.
func frame(length int64, sum uint32, data string) string {
	return wire.Num(length) + string([]byte{byte(sum), byte(sum >> 8), byte(sum >> 16), byte(sum >> 24)}) + data
}

func TestOfIsTheSum(t *testing.T) { // 2.1
	for s, want := range map[string]uint32{
		"":                         0,
		"123456789":                0xe3069283,
		"a":                        0xc1d04330,
		strings.Repeat("\x00", 32): 0x8a9136aa,
		strings.Repeat("\xff", 32): 0x62a8ab43,
	} {
		if got := Of(s); got != want {
			t.Errorf("Of(%x) is %08x, not %08x", s, got, want)
		}
	}
	for i := range 256 {
		s := string([]byte{byte(i)})
		if Of(s) != wordsOf(s) {
			t.Errorf("Of(%x) is %08x, not %08x", s, Of(s), wordsOf(s))
		}
	}
	for n := range 600 {
		if s := mixed(n); Of(s) != wordsOf(s) {
			t.Errorf("Of %d bytes is %08x, not %08x", n, Of(s), wordsOf(s))
		}
	}
}

func TestOnTakesAnyNumberAsASum(t *testing.T) { // 2.1
	table := crc32.MakeTable(crc32.Castagnoli)
	r := rand.New(rand.NewSource(1))
	for _, sum := range []uint32{0, 1, 0x80000000, 0xffffffff, 0xe3069283, r.Uint32(), r.Uint32()} {
		if On(sum, "") != sum {
			t.Errorf("On(%08x, nothing) is %08x", sum, On(sum, ""))
		}
		for _, n := range []int{1, 2, 9, 300} {
			want := crc32.Update(sum, table, []byte(mixed(n)))
			if got := On(sum, mixed(n)); got != want {
				t.Errorf("On(%08x, %d bytes) is %08x, not %08x", sum, n, got, want)
			}
		}
	}
}

func TestFoldIsTheSumOfAll(t *testing.T) { // 2.1
	for _, l := range [][]string{
		nil,
		{},
		{""},
		{"", "", ""},
		{"123456789"},
		{"12", "", "3456789"},
		{"1", "2", "3", "4", "5", "6", "7", "8", "9"},
		{mixed(300), "a", mixed(70)},
		{"a", mixed(300), mixed(70)},
	} {
		if got, want := Fold(l...), wordsOf(strings.Join(l, "")); got != want {
			t.Errorf("Fold(%.20q) is %08x, not %08x", l, got, want)
		}
	}
}

func TestFrameHasLengthSumAndData(t *testing.T) { // 2.2
	for _, c := range []struct{ s, want string }{
		{"", "\x00\x00\x00\x00\x00"},
		{"123456789", "\x01\x09\x83\x92\x06\xe3123456789"},
		{mixed(300), frame(300, wordsOf(mixed(300)), mixed(300))},
		{mixed(api.MaxFrame), frame(api.MaxFrame, wordsOf(mixed(api.MaxFrame)), mixed(api.MaxFrame))},
	} {
		if got, err := Frame(c.s); got != c.want || err != api.OK {
			t.Errorf("Frame of %d bytes is %.20x, %d, not %.20x", len(c.s), got, err, c.want)
		}
	}
	if got, err := Frame(mixed(api.MaxFrame + 1)); got != "" || err != api.ErrLong {
		t.Errorf("Frame of one byte too many is %.20x, %d, not ErrLong", got, err)
	}
}

func TestNextTellsWhatIsWrong(t *testing.T) { // 2.2
	ab := wordsOf("ab")
	tooLong := mixed(api.MaxFrame + 1)
	for _, c := range []struct {
		s    string
		want api.Errno
	}{
		{"", api.ErrShort},
		{"\x01", api.ErrShort},
		{"\x08\x01\x01\x01\x01\x01\x01\x01", api.ErrShort},
		{"\x09" + mixed(50), api.ErrCode},
		{"\x01\x00" + mixed(50), api.ErrCode},
		{"\x80" + mixed(50), api.ErrCode},
		{"\x08\xff\xff\xff\xff\xff\xff\xff\xff" + mixed(50), api.ErrCode},
		{frame(-1, 0, "ab"), api.ErrCode},
		{frame(-2, ab, "ab"), api.ErrCode},
		{frame(-1<<63, ab, "ab"), api.ErrCode},
		{frame(api.MaxFrame+1, wordsOf(tooLong), tooLong), api.ErrLong},
		{wire.Num(api.MaxFrame + 1), api.ErrLong}, // too long is told ahead of too short
		{frame(1<<32+2, ab, "ab"), api.ErrLong},
		{frame(1<<63-1, ab, "ab"), api.ErrLong},
		{"\x00", api.ErrShort},
		{"\x00\x00\x00\x00", api.ErrShort},
		{frame(3, ab, "ab"), api.ErrShort},
		{frame(3, 0, "ab"), api.ErrShort}, // too short is told ahead of a wrong sum
		{frame(api.MaxFrame, 0, mixed(api.MaxFrame-1)), api.ErrShort},
		{frame(2, 0, "ab"), api.ErrSum},
		{frame(2, ^ab, "ab"), api.ErrSum},
		{frame(2, ab^1<<31, "ab"), api.ErrSum},
		{frame(2, ab, "ba"), api.ErrSum},
		{frame(1, ab, "ab"), api.ErrSum},
		{frame(0, 1, ""), api.ErrSum},
	} {
		data, rest, err := Next(c.s)
		if err != c.want || data != "" || rest != "" {
			t.Errorf("Next(%.20x) is %.20x, %.20x, %d, not %d", c.s, data, rest, err, c.want)
		}
	}
}

func TestNextHoldsEachByteOfTheSum(t *testing.T) { // 2.2
	f, _ := Frame(mixed(20))
	for i := 2; i < len(f); i++ {
		for _, turn := range []byte{1, 0x80, 0xff} {
			bad := []byte(f)
			bad[i] ^= turn
			if data, rest, err := Next(string(bad)); err != api.ErrSum || data != "" || rest != "" {
				t.Errorf("with byte %d turned by %x: %x, %x, %d, not ErrSum", i, turn, data, rest, err)
			}
		}
	}
}

// place is where a text's bytes are, and how far they go.
func place(s string) (uintptr, uintptr) {
	p := uintptr(unsafe.Pointer(unsafe.StringData(s)))
	return p, p + uintptr(len(s))
}

// apart tells whether no two of the texts share memory.
func apart(l ...string) bool {
	for i, a := range l {
		for _, b := range l[:i] {
			a1, a2 := place(a)
			b1, b2 := place(b)
			if a1 < b2 && b1 < a2 {
				return false
			}
		}
	}
	return true
}

func TestAnswersAreNewMemory(t *testing.T) { // 2.3
	in := mixed(50)
	f, _ := Frame(in)
	again, _ := Frame(in)
	s := f + mixed(30)
	data, rest, _ := Next(s)
	data2, rest2, _ := Next(s)
	if !apart(in, f, again, s, data, rest, data2, rest2) {
		t.Error("an answer shares memory")
	}
}

func TestFoldLeavesItsListAsItWas(t *testing.T) { // 2.3
	l := []string{"a", "b", "c"}
	Fold(l...)
	if strings.Join(l, ",") != "a,b,c" {
		t.Errorf("what was handed in was changed: %q", l)
	}
}

func TestWhatWasFramedIsToldNext(t *testing.T) { // 2.4
	f, _ := Frame("next one")
	for _, behind := range []string{"", "z", "\x00", f, mixed(5000)} {
		for _, n := range []int{0, 1, 2, 255, 256, 300, 5000, api.MaxFrame - 1, api.MaxFrame} {
			s, _ := Frame(mixed(n))
			data, rest, err := Next(s + behind)
			if data != mixed(n) || rest != behind || err != api.OK {
				t.Errorf("%d bytes, and %d behind them, are told as %d, %d, %d", n, len(behind), len(data), len(rest), err)
			}
		}
	}
}

func TestSumsAreReckonedInPieces(t *testing.T) { // 2.5
	s := mixed(100)
	for i := range len(s) + 1 {
		if On(Of(s[:i]), s[i:]) != Of(s) {
			t.Errorf("parted at %d it is another sum", i)
		}
		for j := range i {
			if Fold(s[:j], s[j:i], s[i:]) != Of(s) {
				t.Errorf("parted at %d and %d it is another sum", j, i)
			}
		}
	}
}

func TestAnotherByteIsAnotherSum(t *testing.T) { // 2.6
	for _, n := range []int{1, 2, 9, 64, 300} {
		b := []byte(mixed(n))
		was := Of(string(b))
		for i := range b {
			for turn := 1; turn < 256; turn++ {
				b[i] ^= byte(turn)
				if Of(string(b)) == was {
					t.Fatalf("of %d bytes, byte %d turned by %x: the same sum", n, i, turn)
				}
				b[i] ^= byte(turn)
			}
		}
	}
}
