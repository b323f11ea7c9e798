package trail

import (
	"math"
	"math/rand"
	"runtime"
	"slices"
	"strings"
	"testing"
	"unsafe"

	"bellman/api"
	"bellman/block"
	"bellman/sum"
)

// mixed is a text of n bytes, of which none is like the ones beside it.
func mixed(n int) string {
	var all strings.Builder
	for i := range n {
		all.WriteByte(byte(i*7 + i>>8 + 1))
	}
	return all.String()
}

// blocksOf is what the document's words tell of the blocks of a frame, byte by byte.
func blocksOf(frame string) []string {
	many := (len(frame) + 62) / 63
	all := make([][]byte, many)
	for i := range all {
		all[i] = make([]byte, 64)
		all[i][63] = 1
	}
	all[many-1][63] = 2
	for i := range len(frame) {
		all[i/63][i%63] = frame[i]
	}
	var l []string
	for _, b := range all {
		l = append(l, string(b))
	}
	return l
}

// record is the blocks of a record.
func record(t *testing.T, s string) []string {
	t.Helper()
	frame, err := sum.Frame(s)
	if err != api.OK {
		t.Fatalf("a record of %d bytes: error %d", len(s), err)
	}
	return blocksOf(frame)
}

// dirt is a block that is no record's, nor of zero bytes.
func dirt(whose int) string {
	return strings.Repeat(string([]byte{byte(whose + 100)}), api.BlockSize)
}

// some is a device of so many blocks of dirt.
func some(blocks int, waits ...api.Wait) api.Device {
	d := api.Device{Waits: waits, Fuse: -1}
	for i := range blocks {
		d.Blocks = append(d.Blocks, dirt(i))
	}
	return d
}

// with is d with another fuse, and down or not.
func with(d api.Device, fuse int, down bool) api.Device {
	d.Fuse, d.Down = fuse, down
	return d
}

// laid is a device of n blocks of dirt, over which the blocks are laid, from one on.
func laid(n, from int, blocks ...string) api.Device {
	d := some(n)
	copy(d.Blocks[from:], blocks)
	return d
}

// made is a device of blocks of zero bytes.
func made(t *testing.T, blocks int) api.Device {
	t.Helper()
	d, err := block.Make(blocks)
	if err != api.OK {
		t.Fatalf("Make: error %d", err)
	}
	return d
}

// equal tells whether devices are the same in each field; nil and empty lists are alike.
func equal(d, x api.Device) bool {
	return slices.Equal(d.Blocks, x.Blocks) && slices.Equal(d.Waits, x.Waits) && d.Fuse == x.Fuse && d.Down == x.Down
}

// wrong is devices that are not right.
func wrong() []api.Device {
	short := some(3)
	short.Blocks[1] = short.Blocks[1][1:]
	return []api.Device{
		short,
		with(short, 0, true),
		with(some(3), -2, false),
		with(some(0), -2, true),
		some(3, api.Wait{At: 3, Data: dirt(0)}),
		some(api.MaxBlocks + 1),
	}
}

// outside is regions of which a device of three blocks has none.
var outside = [][2]int{
	{-1, 0}, {-1, 2}, {0, -1}, {0, 4}, {1, 3}, {3, 1}, {3, -1}, {4, 0}, {4, -1}, {2, 2},
	{math.MaxInt, 0}, {math.MinInt, 0}, {0, math.MaxInt}, {0, math.MinInt},
	{math.MaxInt, math.MaxInt}, {1, math.MaxInt}, {math.MaxInt, 1}, {math.MinInt, math.MinInt}, {math.MinInt, math.MaxInt},
}

// checkRead tells what is wrong, if a region's records, or how many blocks are used, are others.
func checkRead(t *testing.T, d api.Device, from, many int, want []string, wantUsed int) {
	t.Helper()
	l, used, err := Read(d, from, many)
	if !slices.Equal(l, want) || used != wantUsed || err != api.OK {
		t.Errorf("Read(%d, %d) is %d records, %d, %d, not %d records, %d", from, many, len(l), used, err, len(want), wantUsed)
	}
}

func TestBlocksTellsHowMany(t *testing.T) { // 4.1
	for _, c := range []struct{ long, want int }{
		{0, 1}, {1, 1}, {10, 1}, {56, 1}, {57, 1}, {58, 2}, {60, 2}, {63, 2}, {64, 2}, {120, 2}, {121, 3},
		{255, 5}, {256, 5}, {308, 5}, {309, 6}, {api.MaxFrame - 1, 521}, {api.MaxFrame, 521},
	} {
		if n, err := Blocks(mixed(c.long)); n != c.want || err != api.OK {
			t.Errorf("Blocks of %d bytes is %d, %d, not %d", c.long, n, err, c.want)
		}
	}
	for n := range 1000 {
		if got, err := Blocks(mixed(n)); got != len(record(t, mixed(n))) || err != api.OK {
			t.Errorf("Blocks of %d bytes is %d, %d", n, got, err)
		}
	}
	for _, n := range []int{api.MaxFrame + 1, api.MaxFrame * 2} {
		if got, err := Blocks(mixed(n)); got != 0 || err != api.ErrLong {
			t.Errorf("Blocks of %d bytes is %d, %d, not ErrLong", n, got, err)
		}
	}
}

func TestReadTellsWhatIsWrong(t *testing.T) { // 4.2
	check := func(d api.Device, from, many int, want api.Errno) {
		t.Helper()
		if l, used, err := Read(d, from, many); len(l) != 0 || used != 0 || err != want {
			t.Errorf("Read(%d, %d) is %q, %d, %d, not %d", from, many, l, used, err, want)
		}
	}
	for _, d := range wrong() {
		check(d, 0, 0, api.ErrForm)
		check(d, 0, 3, api.ErrForm)
		check(d, -1, 9, api.ErrForm)
	}
	for _, fuse := range []int{-1, 0, 7} {
		check(with(some(3), fuse, true), 0, 3, api.ErrPower)
		check(with(some(3), fuse, true), -1, 9, api.ErrPower)
	}
	for _, r := range outside {
		check(some(3), r[0], r[1], api.ErrRange)
	}
	check(some(0), 0, 1, api.ErrRange)
	check(some(0), 1, 0, api.ErrRange)
}

func TestReadOfNoBlocksIsEmpty(t *testing.T) { // 4.2
	one := record(t, "one")
	for from := range 4 {
		checkRead(t, laid(3, 0, one[0], one[0], one[0]), from, 0, nil, 0)
	}
	checkRead(t, api.Device{}, 0, 0, nil, 0)
	checkRead(t, made(t, 3), 0, 3, nil, 0)
	checkRead(t, some(3), 0, 3, nil, 0)
}

func TestReadTellsRecordsAndWhatIsUsed(t *testing.T) { // 4.2
	texts := []string{"one", "", mixed(60), mixed(57), mixed(58), strings.Repeat("\x00", 200), mixed(300)}
	var all []string
	for n, s := range texts {
		all = append(all, record(t, s)...)
		for _, from := range []int{0, 1, 5} {
			checkRead(t, laid(len(all)+from, from, all...), from, len(all), texts[:n+1], len(all))
			checkRead(t, laid(len(all)+from+3, from, all...), from, len(all)+3, texts[:n+1], len(all))
			// The last record is not all in a region that ends ahead of its last block.
			before := len(all) - len(record(t, s))
			checkRead(t, laid(len(all)+from, from, all...), from, len(all)-1, texts[:n], before)
		}
	}
	long := record(t, mixed(api.MaxFrame))
	checkRead(t, laid(api.MaxBlocks, 9, long...), 9, len(long), []string{mixed(api.MaxFrame)}, 521)
	full := slices.Repeat(record(t, "a"), api.MaxBlocks)
	checkRead(t, laid(api.MaxBlocks, 0, full...), 0, api.MaxBlocks, slices.Repeat([]string{"a"}, api.MaxBlocks), api.MaxBlocks)
}

func TestReadTellsWhatBlocksHave(t *testing.T) { // 4.2
	one, two := record(t, "one")[0], record(t, "two")[0]
	d := laid(4, 1, one, one)
	d.Waits = []api.Wait{{At: 2, Data: dirt(0)}, {At: 3, Data: one}, {At: 2, Data: two}}
	for _, fuse := range []int{-1, 0, 1} {
		checkRead(t, with(d, fuse, false), 1, 3, []string{"one", "two", "one"}, 3)
	}
	d.Waits = append(d.Waits, api.Wait{At: 1, Data: dirt(0)})
	checkRead(t, d, 1, 3, nil, 0)
	checkRead(t, d, 2, 2, []string{"two", "one"}, 2)
}

func TestReadTellsNoRecordThatIsNotAsItIsToBe(t *testing.T) { // 4.2
	long := mixed(150)
	frame, _ := sum.Frame(long)
	right := record(t, long)
	turned := func(i, j int) []string { // with byte j of block i turned
		l := slices.Clone(right)
		b := []byte(l[i])
		b[j] ^= 1
		l[i] = string(b)
		return l
	}
	marked := func(i int, mark byte) []string { // with another last byte of block i
		l := slices.Clone(right)
		l[i] = l[i][:63] + string([]byte{mark})
		return l
	}
	many := slices.Repeat([]string{strings.Repeat("\x01", api.BlockSize)}, 600)
	tooLong := mixed(api.MaxFrame + 1)
	head := "\x02\x80\x01"
	folded := sum.Of(tooLong)
	tooLongFrame := head + string([]byte{byte(folded), byte(folded >> 8), byte(folded >> 16), byte(folded >> 24)}) + tooLong
	for name, blocks := range map[string][]string{
		"a byte of the length":       turned(0, 1),
		"a byte of the sum":          turned(0, 3),
		"a byte of the data":         turned(1, 40),
		"a last byte":                turned(2, 63),
		"a byte behind the frame":    turned(2, 62),
		"the first one is the last":  marked(0, 2),
		"the second one is the last": marked(1, 2),
		"the last one goes on":       marked(2, 1),
		"a mark of 0 first":          marked(0, 0),
		"a mark of 0 last":           marked(2, 0),
		"a mark of 3":                marked(1, 3),
		"a mark of 255":              marked(2, 255),
		"a piece is left out":        {right[0], right[2]},
		"a piece stands twice":       {right[0], right[1], right[1], right[2]},
		"pieces change places":       {right[1], right[0], right[2]},
		"the first is left out":      right[1:],
		"the last is left out":       right[:2],
		"zero bytes of a block more": blocksOf(frame + strings.Repeat("\x00", 63)),
		"a frame behind the frame":   blocksOf(frame + "\x01a\x30\x43\xd0\xc1"),
		"no piece ends":              many,
		"many pieces, then an end":   append(many, record(t, "one")...),
		"a length of too many bytes": blocksOf(tooLongFrame),
		"zero bytes that end":        {strings.Repeat("\x00", 63) + "\x03"},
	} {
		// Nor is what stands behind it read: but what is ahead is.
		ahead := slices.Concat(record(t, "one"), blocks, record(t, "two"))
		t.Run(name, func(t *testing.T) {
			checkRead(t, laid(700, 1, blocks...), 1, len(blocks), nil, 0)
			checkRead(t, laid(700, 0, ahead...), 0, len(ahead), []string{"one"}, 1)
		})
	}
	checkRead(t, laid(9, 0, right...), 0, 9, []string{long}, 3)
	// A block of nothing but zero bytes that ends is the record of no bytes, whose sum is 0.
	checkRead(t, laid(9, 0, strings.Repeat("\x00", 63)+"\x02"), 0, 9, []string{""}, 1)
}

// checkSame tells what is wrong, if a call that is refused answers another device, or another error.
func checkSame(t *testing.T, call string, d, x api.Device, used int, err, want api.Errno) {
	t.Helper()
	if !equal(d, x) || used != 0 || err != want {
		t.Errorf("%s: %d blocks, %d waits, fuse %d, down %t, used %d, error %d, not as it was, %d", call, len(x.Blocks), len(x.Waits), x.Fuse, x.Down, used, err, want)
	}
}

func TestAppendTellsWhatIsWrong(t *testing.T) { // 4.2
	check := func(d api.Device, from, many, used int, s string, want api.Errno) {
		t.Helper()
		x, n, err := Append(d, from, many, used, s)
		if want == api.ErrForm {
			d = api.Device{}
		}
		checkSame(t, "Append", d, x, n, err, want)
	}
	long := mixed(api.MaxFrame + 1)
	for _, d := range wrong() {
		check(d, 0, 0, 0, "", api.ErrForm)
		check(d, 0, 3, 0, "a", api.ErrForm)
		check(d, -1, 9, -1, long, api.ErrForm)
	}
	wait := api.Wait{At: 1, Data: dirt(7)}
	for _, fuse := range []int{-1, 0, 7} {
		check(with(some(3, wait), fuse, true), 0, 3, 0, "a", api.ErrPower)
		check(with(some(3, wait), fuse, true), -1, 9, -1, long, api.ErrPower)
		d := with(some(3, wait), fuse, false)
		for _, r := range outside {
			check(d, r[0], r[1], 0, "a", api.ErrRange)
		}
		check(d, 3, 1, 0, long, api.ErrRange)
		for _, used := range []int{-1, 3, math.MaxInt, math.MinInt} {
			check(d, 1, 2, used, "a", api.ErrRange)
			check(d, 1, 2, used, long, api.ErrRange)
		}
		check(d, 1, 2, 1, long, api.ErrLong)
		check(d, 1, 2, 2, long, api.ErrLong)
		check(d, 3, 0, 0, long, api.ErrLong)
		check(d, 1, 2, 2, "a", api.ErrFull)
		check(d, 1, 2, 1, mixed(58), api.ErrFull)
		check(d, 0, 2, 0, mixed(121), api.ErrFull) // though there is a block behind the region
		check(d, 0, 3, 0, mixed(api.MaxFrame), api.ErrFull)
		check(d, 3, 0, 0, "", api.ErrFull)
	}
	check(some(0), 0, 0, 0, "", api.ErrFull)
	check(some(0), 0, 1, 0, "", api.ErrRange)
}

func TestAppendWritesBehindWhatIsUsed(t *testing.T) { // 4.2
	wait := api.Wait{At: 0, Data: dirt(7)}
	for _, s := range []string{"", "ab", mixed(57), mixed(58), mixed(120), strings.Repeat("\x00", 100), mixed(api.MaxFrame)} {
		blocks := record(t, s)
		for _, c := range []struct{ from, many, used int }{
			{0, len(blocks), 0},
			{2, len(blocks) + 3, 0},
			{2, len(blocks) + 3, 3},
			{1, len(blocks) + 4, 2},
		} {
			for _, fuse := range []int{-1, len(blocks), len(blocks) + 7} {
				d := with(some(len(blocks)+5, wait), fuse, false)
				x, used, err := Append(d, c.from, c.many, c.used, s)
				if fuse > 0 {
					d.Fuse -= len(blocks)
				}
				for i, data := range blocks {
					d.Waits = append(d.Waits, api.Wait{At: c.from + c.used + i, Data: data})
				}
				if !equal(x, d) || used != c.used+len(blocks) || err != api.OK {
					t.Errorf("Append of %d bytes, %v, fuse %d: %d waits, fuse %d, used %d, error %d", len(s), c, fuse, len(x.Waits), x.Fuse, used, err)
				}
			}
		}
	}
}

func TestAppendEndsWithTheFirstError(t *testing.T) { // 4.2
	s := mixed(200)
	blocks := record(t, s)
	for fuse := range len(blocks) {
		d := with(some(9), fuse, false)
		x, used, err := Append(d, 2, 7, 1, s)
		for i := range fuse + 1 {
			d.Waits = append(d.Waits, api.Wait{At: 3 + i, Data: blocks[i]})
		}
		if !equal(x, with(d, 0, true)) || used != 0 || err != api.ErrPower {
			t.Errorf("fuse %d: %d waits, fuse %d, down %t, used %d, error %d, not ErrPower", fuse, len(x.Waits), x.Fuse, x.Down, used, err)
		}
	}
	for room := range len(blocks) {
		d := with(some(9, slices.Repeat([]api.Wait{{At: 8, Data: dirt(9)}}, api.MaxWaits-room)...), 9, false)
		x, used, err := Append(d, 2, 7, 1, s)
		for i := range room {
			d.Waits = append(d.Waits, api.Wait{At: 3 + i, Data: blocks[i]})
		}
		if !equal(x, with(d, 9-room, false)) || used != 0 || err != api.ErrFull {
			t.Errorf("room for %d: %d waits, fuse %d, used %d, error %d, not ErrFull", room, len(x.Waits), x.Fuse, used, err)
		}
	}
}

func TestWipeTellsWhatIsWrong(t *testing.T) { // 4.2
	for _, d := range wrong() {
		for _, r := range [][2]int{{0, 0}, {0, 3}, {-1, 9}} {
			x, err := Wipe(d, r[0], r[1])
			checkSame(t, "Wipe", api.Device{}, x, 0, err, api.ErrForm)
		}
	}
	wait := api.Wait{At: 1, Data: dirt(7)}
	for _, fuse := range []int{-1, 0, 7} {
		for _, r := range [][2]int{{0, 3}, {3, 0}, {-1, 9}} {
			d := with(some(3, wait), fuse, true)
			x, err := Wipe(d, r[0], r[1])
			checkSame(t, "Wipe", d, x, 0, err, api.ErrPower)
		}
		for _, r := range outside {
			d := with(some(3, wait), fuse, false)
			x, err := Wipe(d, r[0], r[1])
			checkSame(t, "Wipe", d, x, 0, err, api.ErrRange)
		}
	}
}

func TestWipeWritesToBlocksThatHaveOthers(t *testing.T) { // 4.2
	zeros := strings.Repeat("\x00", api.BlockSize)
	d := laid(8, 3, zeros, dirt(4), zeros[:63]+"\x01", zeros)
	d.Waits = []api.Wait{{At: 3, Data: dirt(7)}, {At: 4, Data: zeros}}
	for _, c := range []struct {
		from, many int
		want       []int
	}{
		{0, 0, nil},
		{8, 0, nil},
		{4, 1, nil},
		{6, 1, nil},
		{3, 1, []int{3}},
		{2, 5, []int{2, 3, 5}},
		{0, 8, []int{0, 1, 2, 3, 5, 7}},
	} {
		for fuse := -1; fuse < 8; fuse++ {
			x, err := Wipe(with(d, fuse, false), c.from, c.many)
			want, wantErr := with(d, fuse, false), api.OK
			want.Waits = slices.Clone(d.Waits)
			for _, at := range c.want {
				want.Waits = append(want.Waits, api.Wait{At: at, Data: zeros})
				if want.Fuse == 0 {
					want.Down, wantErr = true, api.ErrPower
					break
				}
				want.Fuse = max(want.Fuse-1, -1)
			}
			if !equal(x, want) || err != wantErr {
				t.Errorf("Wipe(%d, %d) with %d: %d waits, fuse %d, down %t, error %d", c.from, c.many, fuse, len(x.Waits), x.Fuse, x.Down, err)
			}
		}
	}
}

func TestWipeEndsWhereNoMoreMayWait(t *testing.T) { // 4.2
	zeros := strings.Repeat("\x00", api.BlockSize)
	d := some(4, slices.Repeat([]api.Wait{{At: 0, Data: dirt(9)}}, api.MaxWaits-1)...)
	x, err := Wipe(d, 1, 3)
	d.Waits = append(d.Waits, api.Wait{At: 1, Data: zeros})
	if !equal(x, d) || err != api.ErrFull {
		t.Errorf("%d waits, error %d, not ErrFull", len(x.Waits), err)
	}
}

func TestWhatIsWipedHasNoRecords(t *testing.T) { // 4.2
	blocks := slices.Concat(record(t, "one"), record(t, mixed(100)), record(t, "three"))
	x, err := Wipe(laid(9, 2, blocks...), 2, 6)
	if err != api.OK {
		t.Fatalf("Wipe: error %d", err)
	}
	checkRead(t, x, 2, 6, nil, 0)
	for at, want := range map[int]string{1: dirt(1), 2: strings.Repeat("\x00", 64), 7: strings.Repeat("\x00", 64), 8: dirt(8)} {
		if got, err := block.Read(x, at); got != want || err != api.OK {
			t.Errorf("block %d is %x, %d", at, got, err)
		}
	}
}

// places are where a device's texts begin, and its lists.
func places(d api.Device) map[uintptr]bool {
	all := map[uintptr]bool{}
	for _, s := range d.Blocks {
		all[uintptr(unsafe.Pointer(unsafe.StringData(s)))] = s != ""
	}
	for _, w := range d.Waits {
		all[uintptr(unsafe.Pointer(unsafe.StringData(w.Data)))] = w.Data != ""
	}
	all[uintptr(unsafe.Pointer(unsafe.SliceData(d.Blocks)))] = cap(d.Blocks) > 0
	all[uintptr(unsafe.Pointer(unsafe.SliceData(d.Waits)))] = cap(d.Waits) > 0
	return all
}

// answers are what the calls answer of d, a list of texts as the blocks of a device.
func answers(d api.Device) []api.Device {
	var all []api.Device
	for _, fuse := range []int{-1, 0} {
		for _, down := range []bool{false, true} {
			for _, long := range []int{20, 200, api.MaxFrame + 1} {
				x, _, _ := Append(with(d, fuse, down), 2, 4, 2, mixed(long))
				all = append(all, x)
			}
			for _, many := range []int{-1, 0, 3} {
				x, _ := Wipe(with(d, fuse, down), 2, many)
				all = append(all, x)
			}
		}
	}
	l, _, _ := Read(d, 2, 4)
	return append(all, api.Device{Blocks: l})
}

func TestAnswersAreNewMemory(t *testing.T) { // 4.3
	s := mixed(56)
	d := laid(9, 2, append(record(t, "one"), record(t, s)...)...)
	d.Waits = []api.Wait{{At: 0, Data: record(t, "two")[0]}}
	all := slices.Concat([]api.Device{d, {Blocks: []string{s}}}, answers(d), answers(d))
	if len(all[len(all)-1].Blocks) != 2 {
		t.Fatal("there are not two records")
	}
	whose := map[uintptr]int{}
	for i, x := range all {
		for p, is := range places(x) {
			if was, ok := whose[p]; ok && is {
				t.Errorf("answers %d and %d share memory", was, i)
			}
			if is {
				whose[p] = i
			}
		}
	}
	runtime.KeepAlive(all) // else a place might be another's by then
}

func TestWhatIsHandedInStays(t *testing.T) { // 4.3
	d := laid(9, 2, record(t, "one")...)
	d.Waits = slices.Repeat([]api.Wait{{At: 0, Data: dirt(9)}}, 4)[:2]
	was, behind := api.Device{Blocks: slices.Clone(d.Blocks), Waits: slices.Clone(d.Waits), Fuse: -1}, slices.Clone(d.Waits[:4])
	a, used, _ := Append(d, 2, 5, 1, mixed(100))
	w, _ := Wipe(d, 2, 5)
	l, _, _ := Read(d, 2, 5)
	Append(d, 2, 5, 9, "")
	if !equal(d, was) || !slices.Equal(d.Waits[:4], behind) {
		t.Error("what was handed in was changed")
	}
	d.Blocks[2], d.Blocks[3], d.Waits[0] = dirt(50), dirt(51), api.Wait{At: 3, Data: dirt(52)}
	l[0] = "z"
	checkRead(t, a, 2, 5, []string{"one", mixed(100)}, used)
	checkRead(t, w, 2, 5, nil, 0)
	checkRead(t, was, 2, 5, []string{"one"}, 1)
}

func TestWhatIsAppendedIsReadBehind(t *testing.T) { // 4.4
	r := rand.New(rand.NewSource(4))
	for range 60 {
		size := 5 + r.Intn(60)
		from := r.Intn(size)
		many := r.Intn(size - from + 1)
		d := made(t, size)
		var all []string
		used := 0
		for range 40 {
			s := mixed(r.Intn(300))
			if r.Intn(3) == 0 {
				s = strings.Repeat("\x00", r.Intn(200))
			}
			need, _ := Blocks(s)
			x, n, err := Append(d, from, many, used, s)
			if used+need > many {
				checkSame(t, "Append", d, x, n, err, api.ErrFull)
				continue
			}
			if n != used+need || err != api.OK {
				t.Fatalf("Append is %d, %d, not %d", n, err, used+need)
			}
			d, used, all = x, n, append(all, s)
			checkRead(t, d, from, many, all, used)
			if r.Intn(4) == 0 {
				d, _ = block.Sync(d)
			}
		}
		checkRead(t, d, 0, from, nil, 0)
		checkRead(t, d, from+many, size-from-many, nil, 0)
	}
}

func TestWhatIsReadIsAppendedTo(t *testing.T) { // 4.4
	old := slices.Concat(record(t, "one"), record(t, mixed(100)), []string{dirt(1), dirt(2)}, record(t, "no more"))
	d := laid(12, 1, old...)
	l, used, err := Read(d, 1, 11)
	if len(l) != 2 || used != 3 || err != api.OK {
		t.Fatalf("%d records, %d, %d", len(l), used, err)
	}
	x, used, err := Append(d, 1, 11, used, "behind")
	if used != 4 || err != api.OK {
		t.Fatalf("used %d, error %d", used, err)
	}
	checkRead(t, x, 1, 11, []string{"one", mixed(100), "behind"}, 4)
}

// base is a device with two records in a region of eight blocks, from one on, and zero bytes behind them, all synced.
func base(t *testing.T) (api.Device, []string, int) {
	t.Helper()
	d := made(t, 10)
	texts := []string{"first", mixed(60)}
	used := 0
	for _, s := range texts {
		x, n, err := Append(d, 1, 8, used, s)
		if err != api.OK {
			t.Fatalf("Append: error %d", err)
		}
		d, used = x, n
	}
	d, err := block.Sync(d)
	if err != api.OK {
		t.Fatalf("Sync: error %d", err)
	}
	return d, texts, used
}

// keeps are all lists of so many numbers of those.
func keeps(many int, of []int) [][]int {
	if many == 0 {
		return [][]int{nil}
	}
	var all [][]int
	for _, l := range keeps(many-1, of) {
		for _, n := range of {
			all = append(all, append(slices.Clone(l), n))
		}
	}
	return all
}

func TestTornRecordsAreThereOrNot(t *testing.T) { // 4.5
	d, texts, used := base(t)
	each := []int{}
	for n := -1; n <= 65; n++ {
		each = append(each, n)
	}
	few := []int{0, 1, 7, 40, 62, 63, 64}
	for _, s := range []string{"", "a", mixed(56), mixed(57), strings.Repeat("\x00", 57), mixed(70), strings.Repeat("\x00", 110), mixed(120), mixed(180), strings.Repeat("\x00", 150)} {
		blocks := len(record(t, s))
		of := few
		if blocks == 1 {
			of = each
		}
		for fuse := -1; fuse < blocks; fuse++ {
			written, _, _ := Append(with(d, fuse, false), 1, 8, used, s)
			for _, keep := range keeps(len(written.Waits), of) {
				c, err := block.Crash(written, keep...)
				if err != api.OK {
					t.Fatalf("Crash: error %d", err)
				}
				want, wantUsed := texts, used
				if len(keep) == blocks && slices.Min(keep) >= api.BlockSize {
					want, wantUsed = append(slices.Clone(texts), s), used+blocks
				}
				checkRead(t, c, 1, 8, want, wantUsed)
			}
		}
	}
}

func TestTornRecordsHangOnNoSum(t *testing.T) { // 4.5
	d, texts, used := base(t)
	// What is lost of these records is zero bytes but for the last one, so that their sums are right.
	for _, s := range []string{"", strings.Repeat("\x00", 57), mixed(30), mixed(50) + strings.Repeat("\x00", 60)} {
		blocks := len(record(t, s))
		written, _, err := Append(d, 1, 8, used, s)
		if err != api.OK {
			t.Fatalf("Append: error %d", err)
		}
		keep := slices.Repeat([]int{api.BlockSize}, blocks)
		keep[blocks-1] = api.BlockSize - 1
		c, _ := block.Crash(written, keep...)
		checkRead(t, c, 1, 8, texts, used)
	}
}
