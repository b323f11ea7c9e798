package parts_test

import (
	"math"
	"math/rand"
	"slices"
	"strings"
	"testing"

	"bellman/parts"
	"bellman/wire"
)

// put is a text's bytes.
func put(s string) string {
	all, _ := wire.Text(s)
	return all
}

func TestPartsAreReadOneBehindTheOther(t *testing.T) {
	for _, behind := range []string{"", "z", "\x00", strings.Repeat("more", 5000)} {
		for _, n := range []int64{0, 1, -1, 300, math.MinInt64, math.MaxInt64} {
			for _, s := range []string{"", "a", strings.Repeat("x", 4096)} {
				r := parts.Reader{Rest: wire.Num(n) + put(s) + "b" + wire.Num(n) + put(s) + behind}
				for i := range 2 {
					gotNum, gotText := r.Num(), r.Text()
					if gotNum != n || gotText != s || r.Bad {
						t.Fatalf("read are %d, %.20q, %t, not %d, %.20q", gotNum, gotText, r.Bad, n, s)
					}
					if i == 0 && r.Byte() != 'b' {
						t.Fatal("the byte is another one")
					}
				}
				if r.Rest != behind {
					t.Fatalf("%d bytes are left, not %d", len(r.Rest), len(behind))
				}
			}
		}
	}
}

func TestWhatIsBadStaysBad(t *testing.T) {
	good := wire.Num(5) + put("ab")
	for _, bad := range []string{"\x09", "\x80", "\x02\x00\x05", "\x08\xff\xff\xff\xff\xff\xff\xff\xff"} {
		r := parts.Reader{Rest: bad + good}
		if n := r.Num(); n != 0 || !r.Bad {
			t.Errorf("the number of %q is %d, %t", bad, n, r.Bad)
		}
		unread(t, r)
	}
	for _, bad := range []string{"\x09", "\x81\x01", "\x02\x10\x01" + strings.Repeat("x", 4097), "\x01\x07"} {
		r := parts.Reader{Rest: bad + good}
		if s := r.Text(); s != "" || !r.Bad {
			t.Errorf("the text of %.10q is %.10q, %t", bad, s, r.Bad)
		}
		unread(t, r)
	}
	for i := range 3 {
		r := parts.Reader{}
		switch i {
		case 0:
			r.Byte()
		case 1:
			r.Num()
		case 2:
			r.Text()
		}
		if !r.Bad {
			t.Errorf("part %d of nothing is not bad", i)
		}
		r.Rest = good
		unread(t, r)
	}
}

// unread fails, if anything can be read yet.
func unread(t *testing.T, r parts.Reader) {
	t.Helper()
	left := r.Rest
	if b, n, s := r.Byte(), r.Num(), r.Text(); b != 0 || n != 0 || s != "" || !r.Bad || r.Rest != left {
		t.Errorf("read are %d, %d, %q of what is bad", b, n, s)
	}
}

func TestAnyBytesAreRead(t *testing.T) {
	r := rand.New(rand.NewSource(1))
	for range 20000 {
		var all []byte
		for range r.Intn(12) {
			all = append(all, byte(r.Intn(1<<uint(1+r.Intn(8)))))
		}
		s := string(all)
		wantNum, numRest, noNum := wire.GetNum(s)
		wantText, textRest, noText := wire.GetText(s)
		nums, texts := parts.Reader{Rest: s}, parts.Reader{Rest: s}
		if n := nums.Num(); n != wantNum || nums.Bad != (noNum != 0) || !nums.Bad && nums.Rest != numRest {
			t.Fatalf("the number of %q is %d, %t", s, n, nums.Bad)
		}
		if text := texts.Text(); text != wantText || texts.Bad != (noText != 0) || !texts.Bad && texts.Rest != textRest {
			t.Fatalf("the text of %q is %q, %t", s, text, texts.Bad)
		}
	}
}

func TestPartsArePutOneBehindTheOther(t *testing.T) {
	var w parts.Writer
	w.Nums()
	w.Nums(300, -1)
	w.Texts()
	w.Texts("ab", "", strings.Repeat("x", 4096))
	w.WriteByte('b')
	w.List()
	w.List(5, 0, math.MinInt64)
	w.WriteString("more")
	list, _ := wire.Nums(5, 0, math.MinInt64)
	want := "\x02\x01\x2c\x81\x01" + put("ab") + "\x00" + put(strings.Repeat("x", 4096)) + "b\x00" + list + "more"
	if w.String() != want {
		t.Errorf("put are %.100q, not %.100q", w.String(), want)
	}
	if parts.Bit(false) != 0 || parts.Bit(true) != 1 {
		t.Errorf("the bits are %d and %d", parts.Bit(false), parts.Bit(true))
	}
}

func TestListsAreRead(t *testing.T) {
	for _, many := range []int{0, 1, 2, 1023, 1024} {
		for _, n := range []int64{0, -7, math.MinInt64, math.MaxInt64} {
			for _, behind := range []string{"", "z", strings.Repeat("more", 5000)} {
				want := slices.Repeat([]int64{n}, many)
				var w parts.Writer
				w.List(want...)
				r := parts.Reader{Rest: w.String() + behind}
				if l := r.List(); !slices.Equal(l, want) || r.Bad || r.Rest != behind {
					t.Fatalf("the list of %d times %d is %.100v, %t, %d bytes behind it", many, n, l, r.Bad, len(r.Rest))
				}
				// One byte less, and there is none.
				r = parts.Reader{Rest: w.String()[:w.Len()-1]}
				if l := r.List(); len(l) > 0 || !r.Bad || r.Rest != w.String()[:w.Len()-1] {
					t.Fatalf("the list of %d times %d without its last byte is %.100v, %t", many, n, l, r.Bad)
				}
			}
		}
	}
	for _, bad := range []string{"\x81\x01", "\x02\x04\x01" + strings.Repeat("\x00", 1025), "\x01\x02\x01\x05\x09"} {
		r := parts.Reader{Rest: bad}
		if l := r.List(); len(l) > 0 || !r.Bad {
			t.Errorf("the list of %.10q is %v, %t", bad, l, r.Bad)
		}
		r.Rest = "\x00"
		if l := r.List(); len(l) > 0 || r.Rest != "\x00" {
			t.Error("what is bad is read")
		}
	}
}
