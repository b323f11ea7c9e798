package heap_test

import (
	"math"
	"math/rand"
	"slices"
	"sort"
	"testing"

	"bellman/api"
	"bellman/heap"
)

// before tells whether a comes ahead of b.
func before(a, b api.Timer) bool {
	if a.Due == b.Due {
		return a.Seq < b.Seq
	}
	return a.Due < b.Due
}

// inOrder are the timers in order.
func inOrder(l []api.Timer) []api.Timer {
	all := append([]api.Timer{}, l...)
	sort.Slice(all, func(i, j int) bool { return before(all[i], all[j]) })
	return all
}

// alike tells whether both have just the same timers, in whatever order.
func alike(a, b []api.Timer) bool {
	return slices.Equal(inOrder(a), inOrder(b))
}

// hasTwice tells whether two timers have one Seq.
func hasTwice(l []api.Timer) bool {
	seen := map[int64]int{}
	for _, t := range l {
		seen[t.Seq]++
	}
	return len(seen) != len(l)
}

// isRight tells whether h is a right heap: each timer is held against the two below it.
func isRight(h []api.Timer) bool {
	for i, t := range h {
		if 2*i+1 < len(h) && before(h[2*i+1], t) || 2*i+2 < len(h) && before(h[2*i+2], t) {
			return false
		}
	}
	return len(h) <= 4096 && !hasTwice(h)
}

// lists are all lists of at most so many of the timers, one as often as there is room.
func lists(of []api.Timer, most int) [][]api.Timer {
	all := [][]api.Timer{nil}
	for from := 0; most > 0; most-- {
		end := len(all)
		for _, l := range all[from:end] {
			for _, t := range of {
				all = append(all, append(slices.Clone(l), t))
			}
		}
		from = end
	}
	return all
}

// few are timers of few Dues and Seqs, so that some are due together, and some have one Seq; Kind and Ref tell them from one another.
func few() []api.Timer {
	return []api.Timer{
		{Due: 1, Seq: 1, Kind: 1, Ref: 9},
		{Due: 1, Seq: 2, Kind: 2, Ref: 8},
		{Due: 2, Seq: 1, Kind: 3, Ref: 7},
		{Due: 2, Seq: 3, Kind: 1, Ref: 6},
		{Due: 3, Seq: 0, Kind: 0, Ref: 5},
		{Due: 2, Seq: -4, Kind: 255, Ref: -4},
	}
}

// chance are so many timers of any Dues, the ends of all numbers among them, no two of one Seq.
func chance(r *rand.Rand, many int) []api.Timer {
	ends := []int64{math.MinInt64, math.MinInt64 + 1, -1, 0, 1, math.MaxInt64 - 1, math.MaxInt64}
	var l []api.Timer
	for _, seq := range r.Perm(many) {
		t := api.Timer{Due: r.Int63n(int64(many)), Seq: int64(seq - many/2), Kind: uint8(r.Intn(3)), Ref: r.Int63n(5)}
		switch r.Intn(5) {
		case 0:
			t.Due = ends[r.Intn(len(ends))]
		case 1:
			t.Due = int64(r.Uint64())
		}
		l = append(l, t)
	}
	if many > 1 {
		l[0].Seq, l[1].Seq = math.MaxInt64, math.MinInt64
	}
	return l
}

// row are so many timers, in order.
func row(many int) []api.Timer {
	var l []api.Timer
	for i := range many {
		l = append(l, api.Timer{Due: int64(i / 2), Seq: int64(i), Kind: 1, Ref: int64(-i)})
	}
	return l
}

// with is the list with another timer at place i.
func with(l []api.Timer, i int, t api.Timer) []api.Timer {
	l = slices.Clone(l)
	l[i] = t
	return l
}

// wrong are lists that are no right heaps.
func wrong() map[string][]api.Timer {
	return map[string][]api.Timer{
		"two of one Seq":                        {{Due: 1, Seq: 7}, {Due: 2, Seq: 7}},
		"twice the same":                        {{Due: 1, Seq: 7}, {Due: 1, Seq: 7}},
		"two that are nothing":                  {{}, {}},
		"the second one by Due":                 {{Due: 2, Seq: 1}, {Due: 1, Seq: 2}},
		"the second one by Seq":                 {{Due: 2, Seq: 2}, {Due: 2, Seq: 1}},
		"the third one by Due":                  {{Due: 2, Seq: 1}, {Due: 3, Seq: 2}, {Due: 1, Seq: 3}},
		"the third one by Seq":                  {{Due: 2, Seq: 2}, {Due: 3, Seq: 3}, {Due: 2, Seq: 1}},
		"the fourth one":                        {{Due: 1, Seq: 1}, {Due: 5, Seq: 2}, {Due: 2, Seq: 3}, {Due: 4, Seq: 4}},
		"the fifth one":                         {{Due: 1, Seq: 1}, {Due: 5, Seq: 2}, {Due: 2, Seq: 3}, {Due: 6, Seq: 4}, {Due: 4, Seq: 5}},
		"the sixth one":                         {{Due: 1, Seq: 1}, {Due: 2, Seq: 2}, {Due: 5, Seq: 3}, {Due: 6, Seq: 4}, {Due: 7, Seq: 5}, {Due: 4, Seq: 6}},
		"by all numbers":                        {{Due: math.MaxInt64, Seq: 1}, {Due: math.MinInt64, Seq: 2}},
		"by Seqs of all numbers":                {{Seq: math.MaxInt64}, {Seq: math.MinInt64}},
		"one Seq, far from one another":         with(row(100), 99, api.Timer{Due: 1000, Seq: 0}),
		"the last of 4096":                      with(row(4096), 4095, api.Timer{Due: 5, Seq: 4095}),
		"the last of 4096 has the first's Seq":  with(row(4096), 4095, api.Timer{Due: 5000, Seq: 0}),
		"one timer too many":                    row(4097),
		"twice as many timers":                  row(8192),
		"one too many, and two of one Seq":      with(row(4097), 4096, api.Timer{Due: 5000, Seq: 9}),
		"one too many, and the last one is low": with(row(4097), 4096, api.Timer{Due: -1, Seq: 4096}),
	}
}

func TestCheckTellsWhatIsRight(t *testing.T) { // 15.1
	for name, h := range map[string][]api.Timer{
		"nil":                       nil,
		"empty":                     {},
		"one that is nothing":       {{}},
		"one of all numbers":        {{Due: math.MinInt64, Seq: math.MinInt64, Kind: 255, Ref: math.MinInt64}},
		"by Due":                    {{Due: 1, Seq: 2}, {Due: 2, Seq: 1}},
		"by Seq":                    {{Due: 1, Seq: -1}, {Due: 1, Seq: 0}},
		"the kids in another order": {{Due: 1, Seq: 1}, {Due: 5, Seq: 2}, {Due: 2, Seq: 3}},
		"a kid behind its aunt":     {{Due: 1, Seq: 1}, {Due: 5, Seq: 2}, {Due: 2, Seq: 3}, {Due: 6, Seq: 4}, {Due: 7, Seq: 5}, {Due: 3, Seq: 6}, {Due: 4, Seq: 7}},
		"one Kind and Ref":          {{Due: 1, Seq: 1, Kind: 3, Ref: 3}, {Due: 1, Seq: 2, Kind: 3, Ref: 3}},
		"4095":                      row(4095),
		"4096":                      row(4096),
	} {
		if err := heap.Check(h); err != api.OK {
			t.Errorf("%s: Check is %d", name, err)
		}
	}
}

func TestCheckTellsWhatIsWrong(t *testing.T) { // 15.1
	for name, h := range wrong() {
		if err := heap.Check(h); err != api.ErrForm {
			t.Errorf("%s: Check is %d, not ErrForm", name, err)
		}
	}
}

func TestCheckOfAllShortLists(t *testing.T) { // 15.1
	right := 0
	for _, h := range lists(few(), 5) {
		want := api.ErrForm
		if isRight(h) {
			want = api.OK
			right++
		}
		if err := heap.Check(h); err != want {
			t.Fatalf("Check(%v) is %d, not %d", h, err, want)
		}
	}
	if right < 50 {
		t.Errorf("just %d are right", right)
	}
}

func TestCheckFindsEachWrongPlace(t *testing.T) { // 15.1
	for i := 1; i < 200; i++ {
		h := row(200)
		parent := h[(i-1)/2]
		if err := heap.Check(with(h, i, api.Timer{Due: parent.Due - 1, Seq: 1000})); err != api.ErrForm {
			t.Errorf("by Due ahead of its parent at place %d: Check is %d", i, err)
		}
		if err := heap.Check(with(h, i, api.Timer{Due: parent.Due, Seq: parent.Seq - 1000})); err != api.ErrForm {
			t.Errorf("by Seq ahead of its parent at place %d: Check is %d", i, err)
		}
		for _, other := range []int{0, (i - 1) / 2, i - 1, (i + 7) % 200, 199 - i} {
			h := row(200)
			for k := range h {
				h[k].Due = int64(k)
			}
			h[i].Seq = h[other].Seq
			if err := heap.Check(h); other != i && err != api.ErrForm {
				t.Errorf("the Seq of place %d at place %d: Check is %d", other, i, err)
			}
		}
	}
}

func TestTheOthersCheckFirst(t *testing.T) { // 15.1
	for name, h := range wrong() {
		for _, seq := range []int64{0, 7, 9, -9} {
			if l, err := heap.Push(h, api.Timer{Due: 4, Seq: seq}); len(l) != 0 || err != api.ErrForm {
				t.Errorf("%s: Push of Seq %d is %v, %d, not ErrForm", name, seq, l, err)
			}
			if l, x, err := heap.Cancel(h, seq); len(l) != 0 || x != (api.Timer{}) || err != api.ErrForm {
				t.Errorf("%s: Cancel(%d) is %v, %v, %d, not ErrForm", name, seq, l, x, err)
			}
		}
		if l, x, err := heap.Pop(h); len(l) != 0 || x != (api.Timer{}) || err != api.ErrForm {
			t.Errorf("%s: Pop is %v, %v, %d, not ErrForm", name, l, x, err)
		}
		if l, err := heap.Sorted(h); len(l) != 0 || err != api.ErrForm {
			t.Errorf("%s: Sorted is %v, %d, not ErrForm", name, l, err)
		}
	}
}

func TestMakeOfAllShortLists(t *testing.T) { // 15.1
	for _, l := range lists(few(), 5) {
		h, err := heap.Make(l...)
		if hasTwice(l) {
			if len(h) != 0 || err != api.ErrTwice {
				t.Fatalf("Make(%v) is %v, %d, not ErrTwice", l, h, err)
			}
			continue
		}
		if !isRight(h) || !alike(h, l) || err != api.OK {
			t.Fatalf("Make(%v) is %v, %d", l, h, err)
		}
	}
}

func TestMakeOfMany(t *testing.T) { // 15.1
	r := rand.New(rand.NewSource(15))
	for many := range 120 {
		l := chance(r, many)
		if h, err := heap.Make(l...); !isRight(h) || !alike(h, l) || err != api.OK {
			t.Errorf("Make(%v) is %v, %d", l, h, err)
		}
	}
	falling := row(4096)
	slices.Reverse(falling)
	for _, l := range [][]api.Timer{row(4095), row(4096), falling, chance(r, 4096)} {
		if h, err := heap.Make(l...); !isRight(h) || !alike(h, l) || err != api.OK {
			t.Errorf("Make of %d is %d timers, %d", len(l), len(h), err)
		}
	}
}

func TestMakeRefuses(t *testing.T) { // 15.1
	far := row(4096)
	far[4095].Seq = 0
	for _, c := range []struct {
		name string
		l    []api.Timer
		want api.Errno
	}{
		{"two of one Seq", []api.Timer{{Due: 1, Seq: 7}, {Due: 2, Seq: 7}}, api.ErrTwice},
		{"two of one Seq, the other way", []api.Timer{{Due: 2, Seq: 7}, {Due: 1, Seq: 7}}, api.ErrTwice},
		{"two that are nothing", []api.Timer{{}, {}}, api.ErrTwice},
		{"with another one between", []api.Timer{{Due: 1, Seq: 7}, {Due: 2, Seq: 8}, {Due: 3, Seq: 7}}, api.ErrTwice},
		{"4096, and the last has the first's Seq", far, api.ErrTwice},
		{"4097", row(4097), api.ErrFull},
		{"10000", row(10000), api.ErrFull},
		{"4097, and two of one Seq", with(row(4097), 4096, api.Timer{Seq: 4000}), api.ErrTwice},
		{"4097, and two at the beginning", with(row(4097), 0, api.Timer{Seq: 1}), api.ErrTwice},
		{"4097 that are nothing", make([]api.Timer, 4097), api.ErrTwice},
	} {
		if h, err := heap.Make(c.l...); len(h) != 0 || err != c.want {
			t.Errorf("%s: Make is %v, %d, not %d", c.name, h, err, c.want)
		}
	}
}

// heaps are right heaps: all short ones of few timers, and any greater ones.
func heaps() [][]api.Timer {
	var all [][]api.Timer
	for _, l := range lists(few(), 5) {
		if isRight(l) {
			all = append(all, l)
		}
	}
	r := rand.New(rand.NewSource(152))
	for many := range 60 {
		// What is in order is right, and so is what has the kids of each one changed for one another.
		h := inOrder(chance(r, many))
		all = append(all, h)
		if many > 2 {
			h = slices.Clone(h)
			h[1], h[2] = h[2], h[1]
			if isRight(h) {
				all = append(all, h)
			}
		}
		if made, err := heap.Make(chance(r, many)...); err == api.OK {
			all = append(all, made)
		}
	}
	return all
}

func TestSorted(t *testing.T) { // 15.1
	for _, h := range heaps() {
		if l, err := heap.Sorted(h); !slices.Equal(l, inOrder(h)) || err != api.OK {
			t.Fatalf("Sorted(%v) is %v, %d", h, l, err)
		}
	}
}

func TestPush(t *testing.T) { // 15.2
	for _, h := range heaps() {
		for _, x := range append(few(), api.Timer{Due: 2, Seq: 2}, api.Timer{Due: math.MinInt64, Seq: 1 << 40}, api.Timer{Due: math.MaxInt64, Seq: 1 << 40}) {
			was, twice := slices.Clone(h), slices.ContainsFunc(h, func(o api.Timer) bool { return o.Seq == x.Seq })
			l, err := heap.Push(h, x)
			if twice {
				if !slices.Equal(l, was) || err != api.ErrTwice {
					t.Fatalf("Push(%v, %v) is %v, %d, not as it was, ErrTwice", h, x, l, err)
				}
				continue
			}
			if !isRight(l) || !alike(l, append(was, x)) || err != api.OK {
				t.Fatalf("Push(%v, %v) is %v, %d", h, x, l, err)
			}
		}
	}
}

func TestPushToAFullOne(t *testing.T) { // 15.2
	almost, full := row(4095), row(4096)
	for _, x := range []api.Timer{{Due: -1, Seq: 5000}, {Due: 9999, Seq: 5000}, {Due: 1000, Seq: -1}} {
		if l, err := heap.Push(almost, x); !isRight(l) || !alike(l, append(row(4095), x)) || err != api.OK {
			t.Errorf("Push of %v to 4095 is %d timers, %d", x, len(l), err)
		}
		if l, err := heap.Push(full, x); !slices.Equal(l, row(4096)) || err != api.ErrFull {
			t.Errorf("Push of %v to 4096 is %d timers, %d, not as it was, ErrFull", x, len(l), err)
		}
	}
	for _, seq := range []int64{0, 1, 2000, 4095} {
		if l, err := heap.Push(full, api.Timer{Due: 9999, Seq: seq}); !slices.Equal(l, row(4096)) || err != api.ErrTwice {
			t.Errorf("Push of Seq %d to 4096 is %d timers, %d, not as it was, ErrTwice", seq, len(l), err)
		}
	}
}

func TestPop(t *testing.T) { // 15.2
	for _, h := range append(heaps(), row(4096)) {
		l, x, err := heap.Pop(h)
		if len(h) == 0 {
			if len(l) != 0 || x != (api.Timer{}) || err != api.ErrNone {
				t.Errorf("Pop of none is %v, %v, %d, not ErrNone", l, x, err)
			}
			continue
		}
		order := inOrder(h)
		if !isRight(l) || !alike(l, order[1:]) || x != order[0] || err != api.OK {
			t.Fatalf("Pop(%v) is %v, %v, %d", h, l, x, err)
		}
	}
}

func TestCancel(t *testing.T) { // 15.2
	for _, h := range heaps() {
		for i, x := range h {
			l, c, err := heap.Cancel(h, x.Seq)
			if !isRight(l) || !alike(l, slices.Delete(slices.Clone(h), i, i+1)) || c != x || err != api.OK {
				t.Fatalf("Cancel(%v, %d) is %v, %v, %d", h, x.Seq, l, c, err)
			}
		}
		for _, seq := range []int64{1 << 40, -1 << 40, 77777} {
			if l, c, err := heap.Cancel(h, seq); !slices.Equal(l, h) || c != (api.Timer{}) || err != api.ErrNone {
				t.Fatalf("Cancel(%v, %d) is %v, %v, %d, not as it was, ErrNone", h, seq, l, c, err)
			}
		}
	}
}

// far is a heap in which the last one goes up, if it takes the place of the fourth one: it stands below another one.
func far() []api.Timer {
	return []api.Timer{
		{Due: 0, Seq: 1}, {Due: 10, Seq: 2}, {Due: 1, Seq: 3}, {Due: 20, Seq: 4},
		{Due: 11, Seq: 5}, {Due: 2, Seq: 6}, {Due: 3, Seq: 7}, {Due: 21, Seq: 8},
		{Due: 22, Seq: 9}, {Due: 12, Seq: 10}, {Due: 13, Seq: 11}, {Due: 4, Seq: 12},
	}
}

func TestCancelPutsTheLastOneUpOrDown(t *testing.T) { // 15.2
	for _, c := range []struct {
		seq  int64
		what string
	}{{4, "up"}, {8, "up"}, {9, "up"}, {2, "up"}, {1, "down"}, {3, "down"}, {6, "to its own place"}, {12, "nowhere"}} {
		l, x, err := heap.Cancel(far(), c.seq)
		want := slices.DeleteFunc(far(), func(o api.Timer) bool { return o.Seq == c.seq })
		if !isRight(l) || !alike(l, want) || x.Seq != c.seq || err != api.OK {
			t.Errorf("the last one goes %s: Cancel(%d) is %v, %v, %d", c.what, c.seq, l, x, err)
		}
	}
}

func TestWhatIsLeftHasNoRoomBehind(t *testing.T) { // 15.3
	for _, h := range append(heaps(), row(4096), far()) {
		if l, _, _ := heap.Pop(h); cap(l) != len(l) {
			t.Fatalf("Pop(%v) has room for %d behind it", h, cap(l)-len(l))
		}
		for _, x := range h[:min(len(h), 100)] {
			if l, _, _ := heap.Cancel(h, x.Seq); cap(l) != len(l) {
				t.Fatalf("Cancel(%v, %d) has room for %d behind it", h, x.Seq, cap(l)-len(l))
			}
		}
	}
}

// foul is a timer that stands nowhere else.
func foul() api.Timer { return api.Timer{Due: -777, Seq: -778, Kind: 77, Ref: -779} }

// roomy is the list with room behind it, and what that room has.
func roomy(l []api.Timer) ([]api.Timer, []api.Timer) {
	room := append(slices.Clone(l), slices.Repeat([]api.Timer{foul()}, 20)...)
	return room[:len(l)], room[len(l):]
}

// calls are all calls that answer a list, of h.
func calls(h []api.Timer, seq int64) map[string]func() []api.Timer {
	return map[string]func() []api.Timer{
		"Make":                 func() []api.Timer { l, _ := heap.Make(h...); return l },
		"Push":                 func() []api.Timer { l, _ := heap.Push(h, api.Timer{Due: 2, Seq: 1 << 40}); return l },
		"Push of one ahead":    func() []api.Timer { l, _ := heap.Push(h, api.Timer{Due: -1 << 40, Seq: 1 << 40}); return l },
		"Push of one's Seq":    func() []api.Timer { l, _ := heap.Push(h, api.Timer{Due: 2, Seq: seq}); return l },
		"Pop":                  func() []api.Timer { l, _, _ := heap.Pop(h); return l },
		"Cancel":               func() []api.Timer { l, _, _ := heap.Cancel(h, seq); return l },
		"Cancel of what isn't": func() []api.Timer { l, _, _ := heap.Cancel(h, 1<<40); return l },
		"Sorted":               func() []api.Timer { l, _ := heap.Sorted(h); return l },
	}
}

func TestAnswersAreNewMemory(t *testing.T) { // 15.3
	unsorted := []api.Timer{{Due: 9, Seq: 1}, {Due: 3, Seq: 2}, {Due: 5, Seq: 3}, {Due: 1, Seq: 4}}
	for _, was := range append(heaps(), row(4096), far(), unsorted, []api.Timer{{Seq: 1}, {Seq: 1}}) {
		h, behind := roomy(was)
		seq := int64(1 << 41)
		if len(h) > 0 {
			seq = h[len(h)/2].Seq
		}
		for name, call := range calls(h, seq) {
			l := call()
			again := call()
			kept := slices.Clone(again)
			for i := range l {
				l[i] = foul()
			}
			_ = append(l, foul(), foul())
			if !slices.Equal(again, kept) {
				t.Fatalf("%s of %v: two answers share memory", name, was)
			}
			if !slices.Equal(h, was) {
				t.Fatalf("%s of %v: it is %v behind it", name, was, h)
			}
			if slices.ContainsFunc(behind, func(x api.Timer) bool { return x != foul() }) {
				t.Fatalf("%s of %v: the room behind it is changed", name, was)
			}
			heap.Check(h)
		}
	}
}

func TestWhatIsHandedInIsNotKept(t *testing.T) { // 15.3
	for _, was := range append(heaps(), row(4096), far()) {
		h := slices.Clone(was)
		seq := int64(1 << 41)
		if len(h) > 0 {
			seq = h[len(h)/2].Seq
		}
		for name, call := range calls(h, seq) {
			copy(h, was)
			l := call()
			kept := slices.Clone(l)
			for i := range h {
				h[i] = foul()
			}
			if !slices.Equal(l, kept) {
				t.Fatalf("%s of %v keeps what was handed in", name, was)
			}
		}
	}
}

func TestPoppedInOrder(t *testing.T) { // 15.4
	r := rand.New(rand.NewSource(154))
	all := append(heaps(), far(), row(1000))
	for _, many := range []int{2, 3, 7, 8, 9, 100, 500} {
		h, err := heap.Make(chance(r, many)...)
		if err != api.OK {
			t.Fatalf("Make of %d is %d", many, err)
		}
		all = append(all, h)
	}
	for _, h := range all {
		var come []api.Timer
		left := h
		for range h {
			l, x, err := heap.Pop(left)
			if err != api.OK {
				t.Fatalf("Pop(%v) is %d", left, err)
			}
			come = append(come, x)
			left = l
		}
		if !slices.Equal(come, inOrder(h)) {
			t.Fatalf("%v: popped %v", h, come)
		}
		if l, x, err := heap.Pop(left); len(l) != 0 || x != (api.Timer{}) || err != api.ErrNone {
			t.Fatalf("%v: behind all it is %v, %v, %d, not ErrNone", h, l, x, err)
		}
	}
}

func TestExample(t *testing.T) { // 15.4
	h, err := heap.Make(api.Timer{Due: 5, Seq: 1}, api.Timer{Due: 3, Seq: 2}, api.Timer{Due: 9, Seq: 3})
	for _, want := range []int64{3, 5, 9} {
		var x api.Timer
		if h, x, err = heap.Pop(h); x.Due != want || err != api.OK {
			t.Errorf("popped %v, %d, not Due %d", x, err, want)
		}
	}
}

// TestAnyCalls holds a heap against a plain list, whatever is done to it.
func TestAnyCalls(t *testing.T) { // 15.1, 15.2, 15.4
	r := rand.New(rand.NewSource(1542))
	for range 200 {
		var h, model []api.Timer
		for range 120 {
			seq := r.Int63n(40)
			at := slices.IndexFunc(model, func(x api.Timer) bool { return x.Seq == seq })
			var err api.Errno
			var x, want api.Timer
			wantErr := api.OK
			switch r.Intn(6) {
			case 0, 1, 2:
				x = api.Timer{Due: r.Int63n(20), Seq: seq, Kind: uint8(r.Intn(9)), Ref: r.Int63()}
				want = x
				h, err = heap.Push(h, x)
				if at >= 0 {
					wantErr = api.ErrTwice
				} else {
					model = inOrder(append(model, x))
				}
			case 3, 4:
				h, x, err = heap.Cancel(h, seq)
				if at < 0 {
					wantErr = api.ErrNone
				} else {
					want = model[at]
					model = slices.Delete(model, at, at+1)
				}
			case 5:
				h, x, err = heap.Pop(h)
				if len(model) == 0 {
					wantErr = api.ErrNone
				} else {
					want = model[0]
					model = model[1:]
				}
			}
			if !isRight(h) || !alike(h, model) || x != want || err != wantErr {
				t.Fatalf("%v, %v, %d, not %v, %v, %d", h, x, err, model, want, wantErr)
			}
		}
	}
}
