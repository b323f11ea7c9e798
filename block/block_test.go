package block

import (
	"fmt"
	"math"
	"math/rand"
	"slices"
	"strings"
	"testing"
	"unsafe"

	"bellman/api"
)

// filled is data with zero bytes behind, up to a block's.
func filled(data string) string {
	return data + strings.Repeat("\x00", api.BlockSize-len(data))
}

// lined is a block of which each byte tells whose it is, and where it stands.
func lined(whose byte) string {
	var all [api.BlockSize]byte
	for i := range all {
		all[i] = whose + byte(i)
	}
	return string(all[:])
}

// some is a device of blocks that differ, none of zero bytes, with the waits.
func some(blocks int, waits ...api.Wait) api.Device {
	d := api.Device{Waits: waits, Fuse: -1}
	for i := range blocks {
		d.Blocks = append(d.Blocks, lined(byte(i+1)))
	}
	return d
}

// with is d with another fuse, and down or not.
func with(d api.Device, fuse int, down bool) api.Device {
	d.Fuse, d.Down = fuse, down
	return d
}

// full is a device of so many waits.
func full(waits int) api.Device {
	d := some(3)
	for i := range waits {
		d.Waits = append(d.Waits, api.Wait{At: i % 3, Data: lined(byte(i))})
	}
	return d
}

// told is d as a short text.
func told(d api.Device) string {
	return fmt.Sprintf("blocks %x, waits %x, fuse %d, down %t", d.Blocks, d.Waits, d.Fuse, d.Down)
}

// equal tells whether devices are the same in each field; nil and empty lists are alike.
func equal(d, x api.Device) bool {
	return slices.Equal(d.Blocks, x.Blocks) && slices.Equal(d.Waits, x.Waits) && d.Fuse == x.Fuse && d.Down == x.Down
}

// deep is d in other memory.
func deep(d api.Device) api.Device {
	d.Blocks, d.Waits = slices.Clone(d.Blocks), slices.Clone(d.Waits)
	for i, s := range d.Blocks {
		d.Blocks[i] = strings.Clone(s)
	}
	for i, w := range d.Waits {
		d.Waits[i].Data = strings.Clone(w.Data)
	}
	return d
}

// must is a device that was answered with OK.
func must(t *testing.T, d api.Device, err api.Errno) api.Device {
	t.Helper()
	if err != api.OK {
		t.Fatalf("error %d", err)
	}
	return d
}

// has is what Read answers.
func has(t *testing.T, d api.Device, at int) string {
	t.Helper()
	s, err := Read(d, at)
	if err != api.OK {
		t.Fatalf("Read of block %d: error %d", at, err)
	}
	return s
}

// wrong is devices that are not right, each in one thing.
func wrong() map[string]api.Device {
	short, long, empty := some(3), some(3), some(3)
	short.Blocks[0], long.Blocks[2], empty.Blocks[1] = short.Blocks[0][1:], long.Blocks[2]+"x", ""
	data := lined(9)
	return map[string]api.Device{
		"too many blocks":  {Blocks: slices.Repeat([]string{data}, api.MaxBlocks+1), Fuse: -1},
		"a short block":    short,
		"a long block":     long,
		"an empty block":   empty,
		"too many waits":   full(api.MaxWaits + 1),
		"a wait ahead":     some(3, api.Wait{At: -1, Data: data}),
		"a wait behind":    some(3, api.Wait{At: 0, Data: data}, api.Wait{At: 3, Data: data}),
		"a wait far off":   some(3, api.Wait{At: math.MaxInt, Data: data}),
		"a wait of none":   some(0, api.Wait{At: 0, Data: data}),
		"a short wait":     some(3, api.Wait{At: 1, Data: data[1:]}),
		"a long wait":      some(3, api.Wait{At: 1, Data: data}, api.Wait{At: 1, Data: data + "x"}),
		"an empty wait":    some(3, api.Wait{At: 1}),
		"a fuse of -2":     with(some(3), -2, false),
		"the least fuse":   with(some(3), math.MinInt, false),
		"a short one down": with(short, 0, true),
	}
}

func TestCheckTellsWhatIsRight(t *testing.T) { // 3.1
	for name, d := range wrong() {
		if err := Check(d); err != api.ErrForm {
			t.Errorf("%s: Check is %d, not ErrForm", name, err)
		}
	}
	for i, d := range []api.Device{
		{},
		{Blocks: []string{}, Waits: []api.Wait{}, Fuse: -1},
		some(1),
		with(some(3), 0, false),
		with(some(3), math.MaxInt, true),
		some(3, api.Wait{At: 0, Data: lined(1)}, api.Wait{At: 2, Data: lined(2)}, api.Wait{At: 0, Data: lined(3)}),
		{Blocks: slices.Repeat([]string{lined(0)}, api.MaxBlocks), Waits: []api.Wait{{At: api.MaxBlocks - 1, Data: lined(1)}}, Fuse: 1},
		full(api.MaxWaits),
	} {
		if err := Check(d); err != api.OK {
			t.Errorf("device %d: Check is %d, not OK", i, err)
		}
	}
}

func TestWrongDevicesAreToldFirst(t *testing.T) { // 3.1
	for name, d := range wrong() {
		for _, down := range []bool{false, true} {
			d.Down = down
			if s, err := Read(d, -1); s != "" || err != api.ErrForm {
				t.Errorf("%s: Read is %q, %d", name, s, err)
			}
			if x, err := Write(d, -1, lined(1)+"x"); !equal(x, api.Device{}) || err != api.ErrForm {
				t.Errorf("%s: Write is %s, %d", name, told(x), err)
			}
			if x, err := Sync(d); !equal(x, api.Device{}) || err != api.ErrForm {
				t.Errorf("%s: Sync is %s, %d", name, told(x), err)
			}
			if x, err := Crash(d, 1, 2, 3); !equal(x, api.Device{}) || err != api.ErrForm {
				t.Errorf("%s: Crash is %s, %d", name, told(x), err)
			}
			for _, pair := range [][2]api.Device{{d, some(3)}, {some(3), d}, {d, d}} {
				if same, err := Same(pair[0], pair[1]); same || err != api.ErrForm {
					t.Errorf("%s: Same is %t, %d", name, same, err)
				}
			}
		}
	}
}

func TestDownDevicesHaveNoPower(t *testing.T) { // 3.1
	for _, d := range []api.Device{
		with(some(3, api.Wait{At: 1, Data: lined(50)}), 0, true),
		with(some(3), -1, true),
		with(some(3), 7, true),
		with(full(api.MaxWaits), 0, true),
		{Down: true},
	} {
		for _, at := range []int{0, -1, 3} {
			if s, err := Read(d, at); s != "" || err != api.ErrPower {
				t.Errorf("Read(%d) is %q, %d", at, s, err)
			}
			for _, data := range []string{"ab", lined(1) + "x"} {
				if x, err := Write(d, at, data); !equal(x, d) || err != api.ErrPower {
					t.Errorf("Write(%d) is %s, %d", at, told(x), err)
				}
			}
		}
		if x, err := Sync(d); !equal(x, d) || err != api.ErrPower {
			t.Errorf("Sync is %s, %d", told(x), err)
		}
	}
}

func TestMakeMakesBlocksOfZeroBytes(t *testing.T) { // 3.1
	for _, n := range []int{0, 1, 8, api.MaxBlocks} {
		want := api.Device{Blocks: slices.Repeat([]string{filled("")}, n), Fuse: -1}
		if d, err := Make(n); !equal(d, want) || err != api.OK {
			t.Errorf("Make(%d) has %d blocks, %d waits, fuse %d, down %t, error %d", n, len(d.Blocks), len(d.Waits), d.Fuse, d.Down, err)
		}
	}
	for _, n := range []int{-1, api.MaxBlocks + 1, math.MinInt, math.MaxInt} {
		if d, err := Make(n); !equal(d, api.Device{}) || err != api.ErrRange {
			t.Errorf("Make(%d) is %s, %d, not ErrRange", n, told(d), err)
		}
	}
}

func TestReadTellsTheLastWait(t *testing.T) { // 3.2
	d := some(4, api.Wait{At: 1, Data: lined(50)}, api.Wait{At: 3, Data: lined(60)}, api.Wait{At: 1, Data: lined(70)}, api.Wait{At: 0, Data: filled("")})
	for _, fuse := range []int{-1, 0, 5} {
		d.Fuse = fuse
		for at, want := range []string{filled(""), lined(70), lined(3), lined(60)} {
			if s, err := Read(d, at); s != want || err != api.OK {
				t.Errorf("Read(%d) is %x, %d, not %x", at, s, err, want)
			}
		}
		for _, at := range []int{-1, 4, math.MinInt, math.MaxInt} {
			if s, err := Read(d, at); s != "" || err != api.ErrRange {
				t.Errorf("Read(%d) is %x, %d, not ErrRange", at, s, err)
			}
		}
	}
	if s, err := Read(api.Device{}, 0); s != "" || err != api.ErrRange {
		t.Errorf("Read of no blocks is %x, %d, not ErrRange", s, err)
	}
}

func TestWriteTellsWhatIsWrong(t *testing.T) { // 3.2
	long := lined(1) + "x"
	for _, fuse := range []int{-1, 0, 5} {
		for i, c := range []struct {
			d    api.Device
			at   int
			data string
			want api.Errno
		}{
			{some(3), -1, "a", api.ErrRange},
			{some(3), 3, "a", api.ErrRange},
			{some(3), math.MaxInt, "a", api.ErrRange},
			{some(3), math.MinInt, "a", api.ErrRange},
			{some(0), 0, "a", api.ErrRange},
			{full(api.MaxWaits), 3, long, api.ErrRange},
			{some(3), 0, long, api.ErrLong},
			{full(api.MaxWaits), 2, long, api.ErrLong},
			{full(api.MaxWaits), 2, "a", api.ErrFull},
			{full(api.MaxWaits), 0, "", api.ErrFull},
		} {
			d := with(c.d, fuse, false)
			if x, err := Write(d, c.at, c.data); !equal(x, d) || err != c.want {
				t.Errorf("%d: Write is %s, %d, not as it was, %d", i, told(x), err, c.want)
			}
		}
	}
}

func TestWriteWaits(t *testing.T) { // 3.2
	d := some(3, api.Wait{At: 1, Data: lined(50)})
	for _, n := range []int{0, 1, 2, 63, 64} {
		data := lined(90)[:n]
		want := deep(d)
		want.Waits = append(want.Waits, api.Wait{At: 1, Data: filled(data)})
		if x, err := Write(d, 1, data); !equal(x, want) || err != api.OK {
			t.Errorf("Write of %d bytes is %s, %d", n, told(x), err)
		}
	}
	d = full(api.MaxWaits - 1)
	if x, err := Write(d, 2, "a"); len(x.Waits) != api.MaxWaits || x.Waits[api.MaxWaits-1] != (api.Wait{At: 2, Data: filled("a")}) || err != api.OK {
		t.Errorf("Write of the last wait that may be: %d waits, %d", len(x.Waits), err)
	}
}

func TestWritesAndSyncsTakePower(t *testing.T) { // 3.2
	for _, fuse := range []int{-1, 1, 2, math.MaxInt} {
		left := fuse - 1
		if fuse == -1 {
			left = -1
		}
		if x, err := Write(with(some(3), fuse, false), 0, "a"); x.Fuse != left || x.Down || err != api.OK {
			t.Errorf("Write with %d leaves %d, %t, %d", fuse, x.Fuse, x.Down, err)
		}
		if x, err := Sync(with(some(3), fuse, false)); x.Fuse != left || x.Down || err != api.OK {
			t.Errorf("Sync with %d leaves %d, %t, %d", fuse, x.Fuse, x.Down, err)
		}
	}
}

func TestPowerGoesInAWrite(t *testing.T) { // 3.2
	wait := api.Wait{At: 1, Data: lined(50)}
	x, err := Write(with(some(3, wait), 0, false), 2, "ab")
	want := with(some(3, wait, api.Wait{At: 2, Data: filled("ab")}), 0, true)
	if !equal(x, want) || err != api.ErrPower {
		t.Errorf("Write is %s, %d, not %s", told(x), err, told(want))
	}
}

func TestPowerGoesInASync(t *testing.T) { // 3.2
	d := some(3, api.Wait{At: 1, Data: lined(50)}, api.Wait{At: 1, Data: lined(60)})
	x, err := Sync(with(d, 0, false))
	if want := with(d, 0, true); !equal(x, want) || err != api.ErrPower {
		t.Errorf("Sync is %s, %d, not %s", told(x), err, told(want))
	}
}

func TestSyncMakesBlocksWhatTheyHave(t *testing.T) { // 3.2
	d := some(4, api.Wait{At: 1, Data: lined(50)}, api.Wait{At: 3, Data: lined(60)}, api.Wait{At: 1, Data: lined(70)})
	want := some(4)
	want.Blocks[1], want.Blocks[3] = lined(70), lined(60)
	if x, err := Sync(d); !equal(x, want) || err != api.OK {
		t.Errorf("Sync is %s, %d, not %s", told(x), err, told(want))
	}
	if x, err := Sync(api.Device{Fuse: -1}); !equal(x, api.Device{Fuse: -1}) || err != api.OK {
		t.Errorf("Sync of no blocks is %s, %d", told(x), err)
	}
}

func TestCrashKeepsFirstBytes(t *testing.T) { // 3.3
	wait := api.Wait{At: 1, Data: lined(100)}
	for _, keep := range []int{math.MinInt, -64, -1, 0, 1, 2, 3, 31, 63, 64, 65, 128, math.MaxInt} {
		n := min(max(keep, 0), api.BlockSize)
		want := some(3)
		want.Blocks[1] = lined(100)[:n] + want.Blocks[1][n:]
		for _, d := range []api.Device{some(3, wait), with(some(3, wait), 0, true), with(some(3, wait), 9, false)} {
			if x, err := Crash(d, keep); !equal(x, want) || err != api.OK {
				t.Errorf("Crash(%d) is %s, %d, not %s", keep, told(x), err, told(want))
			}
		}
	}
}

func TestCrashGoesThroughWaitsInOrder(t *testing.T) { // 3.3
	a, b, c, was := lined(50), lined(100), lined(150), lined(2)
	d := some(3, api.Wait{At: 1, Data: a}, api.Wait{At: 1, Data: b}, api.Wait{At: 2, Data: c}, api.Wait{At: 1, Data: c})
	for i, test := range []struct {
		keep []int
		one  string // what block 1 has
		two  string // what block 2 has
	}{
		{nil, was, lined(3)},
		{[]int{}, was, lined(3)},
		{[]int{5}, a[:5] + was[5:], lined(3)},
		{[]int{5, 3}, b[:3] + a[3:5] + was[5:], lined(3)},
		{[]int{3, 5}, b[:5] + was[5:], lined(3)},
		{[]int{9, -1, 64, 4}, c[:4] + a[4:9] + was[9:], c},
		{[]int{9, 65, 0, 4}, c[:4] + b[4:], lined(3)},
		{[]int{0, 0, 7, 0}, was, c[:7] + lined(3)[7:]},
		{[]int{64, 64, 64, 64, 64, 1}, c, c},
		{[]int{1, 1, 1, 1, 64}, c[:1] + was[1:], c[:1] + lined(3)[1:]},
	} {
		want := some(3)
		want.Blocks[1], want.Blocks[2] = test.one, test.two
		if x, err := Crash(d, test.keep...); !equal(x, want) || err != api.OK {
			t.Errorf("%d: Crash(%d) is %s, %d, not %s", i, test.keep, told(x), err, told(want))
		}
	}
	if x, err := Crash(api.Device{Down: true}, 1); !equal(x, api.Device{Fuse: -1}) || err != api.OK {
		t.Errorf("Crash of no blocks is %s, %d", told(x), err)
	}
}

func TestSameHoldsWhatBlocksHave(t *testing.T) { // 3.3
	moved := some(3)
	moved.Blocks[0], moved.Blocks[1] = moved.Blocks[1], moved.Blocks[0]
	other := some(3)
	other.Blocks[2] = other.Blocks[2][:63] + "\x00"
	back := some(3, api.Wait{At: 1, Data: lined(50)}, api.Wait{At: 1, Data: lined(2)})
	synced := some(3)
	synced.Blocks[1] = lined(50)
	for i, c := range []struct {
		d, x api.Device
		want bool
	}{
		{some(3), some(3), true},
		{some(3), with(some(3), 5, true), true},
		{api.Device{}, api.Device{Blocks: []string{}, Fuse: -1}, true},
		{some(3), back, true},
		{some(3, api.Wait{At: 1, Data: lined(50)}), synced, true},
		{some(3, api.Wait{At: 1, Data: lined(60)}, api.Wait{At: 1, Data: lined(50)}), with(synced, 0, true), true},
		{some(3), synced, false},
		{some(3), some(3, api.Wait{At: 2, Data: lined(50)}), false},
		{some(3), moved, false},
		{some(3), other, false},
		{some(3), some(4), false},
		{some(3), some(2), false},
		{some(1), some(0), false},
	} {
		for _, pair := range [][2]api.Device{{c.d, c.x}, {c.x, c.d}} {
			if same, err := Same(pair[0], pair[1]); same != c.want || err != api.OK {
				t.Errorf("%d: Same is %t, %d, not %t", i, same, err, c.want)
			}
		}
	}
}

// span is where memory begins, and where it ends.
type span struct{ from, to uintptr }

// spans are those of a device's lists, with the room behind them, and of its texts.
func spans(d api.Device) (lists, texts []span) {
	add := func(l []span, p unsafe.Pointer, n int) []span {
		if n == 0 {
			return l
		}
		return append(l, span{uintptr(p), uintptr(p) + uintptr(n)})
	}
	lists = add(lists, unsafe.Pointer(unsafe.SliceData(d.Blocks)), cap(d.Blocks)*int(unsafe.Sizeof("")))
	lists = add(lists, unsafe.Pointer(unsafe.SliceData(d.Waits)), cap(d.Waits)*int(unsafe.Sizeof(api.Wait{})))
	for _, s := range d.Blocks {
		texts = add(texts, unsafe.Pointer(unsafe.StringData(s)), len(s))
	}
	for _, w := range d.Waits {
		texts = add(texts, unsafe.Pointer(unsafe.StringData(w.Data)), len(w.Data))
	}
	return lists, texts
}

// apart tells whether a's memory is none of b's.
func apart(a, b []span) bool {
	for _, x := range a {
		for _, y := range b {
			if x.from < y.to && y.from < x.to {
				return false
			}
		}
	}
	return true
}

// apartDevices tells whether no two of them share memory, nor two lists of one.
func apartDevices(l ...api.Device) bool {
	for i, d := range l {
		lists, texts := spans(d)
		blocks, waits := d, d
		blocks.Waits, waits.Blocks = nil, nil
		_, ofBlocks := spans(blocks)
		_, ofWaits := spans(waits)
		if !apart(ofBlocks, ofWaits) {
			return false
		}
		for _, x := range l[:i] {
			others, otherTexts := spans(x)
			if !apart(lists, others) || !apart(texts, otherTexts) {
				return false
			}
		}
	}
	return true
}

// answers are what each call answers of d, by whatever way it has of answering a device.
func answers(d api.Device, data string) []api.Device {
	down := with(d, 0, true)
	l := make([]api.Device, 9)
	l[0], _ = Write(d, 1, data)
	l[1], _ = Write(d, 9, data)
	l[2], _ = Write(d, 1, data+"x")
	l[3], _ = Write(down, 1, data)
	l[4], _ = Sync(d)
	l[5], _ = Sync(down)
	l[6], _ = Sync(with(d, 0, false))
	l[7], _ = Crash(d, 64, 0, 3)
	l[8], _ = Write(with(d, 0, false), 1, data)
	return l
}

func TestAnswersAreNewMemory(t *testing.T) { // 3.4
	data := lined(200)
	d := deep(some(3, api.Wait{At: 0, Data: lined(50)}, api.Wait{At: 2, Data: lined(60)}, api.Wait{At: 2, Data: lined(70)}))
	d.Waits = slices.Grow(d.Waits, 8)
	d.Blocks = slices.Grow(d.Blocks, 8)
	all := append(answers(d, data), answers(d, data)...)
	all = append(all, d, api.Device{Blocks: []string{data}})
	for _, n := range []int{1, 3, 3} {
		x, _ := Make(n)
		all = append(all, x)
	}
	for _, at := range []int{0, 1, 2, 0} {
		all = append(all, api.Device{Blocks: []string{has(t, d, at)}})
	}
	if !apartDevices(all...) {
		t.Error("an answer shares memory")
	}
}

func TestWhatIsHandedInStays(t *testing.T) { // 3.4
	d := some(3, api.Wait{At: 0, Data: lined(50)}, api.Wait{At: 2, Data: lined(60)}, api.Wait{At: 2, Data: lined(70)})
	d.Waits = append(d.Waits, api.Wait{At: 1, Data: lined(80)})[:3]
	was, behind := deep(d), d.Waits[:4][3]
	keep := []int{-3, 70, 5}
	first := answers(d, lined(200))
	Crash(d, keep...)
	Same(d, d)
	if !equal(d, was) || d.Waits[:4][3] != behind || !slices.Equal(keep, []int{-3, 70, 5}) {
		t.Error("what was handed in was changed")
	}
	kept := make([]api.Device, len(first))
	for i, x := range first {
		kept[i] = deep(x)
	}
	d.Blocks[0], d.Waits[0] = lined(90), api.Wait{At: 1, Data: lined(91)}
	for i, x := range first {
		if !equal(x, kept[i]) {
			t.Errorf("answer %d changed with what was handed in", i)
		}
		for j := range x.Blocks {
			x.Blocks[j] = ""
		}
		_ = append(x.Waits, api.Wait{At: 7})
	}
	for i, x := range answers(was, lined(200)) {
		if !equal(x, kept[i]) {
			t.Errorf("answer %d hangs on an earlier one", i)
		}
	}
}

// model is a device in other words: bytes that are there for good, and, of each block, what was written since the last sync.
type model struct {
	there   [][]byte
	written [][]string
	order   []int // whose blocks the writes were, in order
	fuse    int
	down    bool
}

func newModel(blocks int) *model {
	m := &model{written: make([][]string, blocks), fuse: -1}
	for range blocks {
		m.there = append(m.there, make([]byte, api.BlockSize))
	}
	return m
}

func (m *model) spend() api.Errno {
	if m.fuse == 0 {
		m.down = true
		return api.ErrPower
	}
	m.fuse = max(m.fuse-1, -1)
	return api.OK
}

func (m *model) write(at int, data string) api.Errno {
	if m.down {
		return api.ErrPower
	}
	m.written[at] = append(m.written[at], filled(data))
	m.order = append(m.order, at)
	return m.spend()
}

func (m *model) sync() api.Errno {
	if m.down {
		return api.ErrPower
	}
	err := m.spend()
	if err == api.OK {
		for at := range m.there {
			copy(m.there[at], m.has(at))
		}
		m.forget()
	}
	return err
}

func (m *model) crash(keep []int) {
	seen := make([]int, len(m.there))
	for i, at := range m.order {
		data := m.written[at][seen[at]]
		seen[at]++
		for j := range api.BlockSize {
			if i < len(keep) && j < keep[i] {
				m.there[at][j] = data[j]
			}
		}
	}
	m.forget()
	m.fuse, m.down = -1, false
}

func (m *model) has(at int) string {
	if l := m.written[at]; len(l) > 0 {
		return l[len(l)-1]
	}
	return string(m.there[at])
}

func (m *model) forget() {
	m.written, m.order = make([][]string, len(m.there)), nil
}

// check tells where a device is another than the model.
func (m *model) check(t *testing.T, d api.Device) {
	t.Helper()
	if d.Fuse != m.fuse || d.Down != m.down || len(d.Blocks) != len(m.there) || len(d.Waits) != len(m.order) || Check(d) != api.OK {
		t.Fatalf("fuse %d, down %t, %d blocks, %d waits, not %d, %t, %d, %d", d.Fuse, d.Down, len(d.Blocks), len(d.Waits), m.fuse, m.down, len(m.there), len(m.order))
	}
	up := with(d, d.Fuse, false)
	for at := range m.there {
		if d.Blocks[at] != string(m.there[at]) || has(t, up, at) != m.has(at) {
			t.Fatalf("block %d is %x, has %x, not %x, %x", at, d.Blocks[at], has(t, up, at), m.there[at], m.has(at))
		}
	}
}

func TestDevicesGoLikeTheirModel(t *testing.T) { // 3.2, 3.3, 3.5
	r := rand.New(rand.NewSource(3))
	for range 200 {
		blocks := 1 + r.Intn(5)
		m := newModel(blocks)
		d, err := Make(blocks)
		d = must(t, d, err)
		for range 60 {
			switch r.Intn(8) {
			case 0:
				keep := make([]int, r.Intn(len(d.Waits)+3))
				for i := range keep {
					keep[i] = r.Intn(72) - 4
				}
				d, err = Crash(d, keep...)
				d = must(t, d, err)
				m.crash(keep)
			case 1:
				d, err = Sync(d)
				if want := m.sync(); err != want {
					t.Fatalf("Sync is %d, not %d", err, want)
				}
			case 2:
				if !d.Down {
					d.Fuse = r.Intn(9) - 1
					m.fuse = d.Fuse
				}
			default:
				at, data := r.Intn(blocks), lined(byte(r.Intn(256)))[:r.Intn(65)]
				d, err = Write(d, at, data)
				if want := m.write(at, data); err != want {
					t.Fatalf("Write is %d, not %d", err, want)
				}
			}
			m.check(t, d)
		}
	}
}

func TestWhatWasSyncedIsSafe(t *testing.T) { // 3.5
	d, _ := Make(4)
	for at := range 4 {
		x, err := Write(d, at, lined(byte(10*at)))
		d = must(t, x, err)
	}
	x, err := Sync(d)
	d = must(t, x, err)
	for fuse := range 4 {
		w := with(d, fuse, false)
		for i := range 4 {
			w, _ = Write(w, 1+2*(i%2), lined(byte(100+i)))
		}
		w, _ = Sync(w)
		for _, keep := range [][]int{nil, {64, 64, 64, 64}, {1, 2, 3, 4}, {-1, 99, 64}} {
			c, err := Crash(w, keep...)
			c = must(t, c, err)
			if has(t, c, 0) != lined(0) || has(t, c, 2) != lined(20) {
				t.Errorf("fuse %d, keep %d: what was synced is gone", fuse, keep)
			}
		}
	}
}

func TestWhatWasWrittenOnceIsTorn(t *testing.T) { // 3.6
	d := some(3)
	for at := range 3 {
		for _, fuse := range []int{-1, 0} {
			for _, n := range []int{0, 3, 64} {
				data := lined(200)[:n]
				w, _ := Write(with(d, fuse, false), at, data)
				for keep := -1; keep <= 65; keep++ {
					c, err := Crash(w, keep)
					c = must(t, c, err)
					first := min(max(keep, 0), api.BlockSize)
					want := filled(data)[:first] + d.Blocks[at][first:]
					if got := has(t, c, at); got != want {
						t.Errorf("block %d, %d bytes, keep %d: %x, not %x", at, n, keep, got, want)
					}
				}
			}
		}
	}
}
