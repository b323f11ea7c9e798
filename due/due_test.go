package due_test

import (
	"math"
	"math/rand"
	"slices"
	"sort"
	"testing"

	"bellman/api"
	"bellman/due"
	"bellman/heap"
)

// before tells whether a comes ahead of b.
func before(a, b api.Timer) bool {
	if a.Due == b.Due {
		return a.Seq < b.Seq
	}
	return a.Due < b.Due
}

// inOrder are the timers in order.
func inOrder(l []api.Timer) []api.Timer {
	all := append([]api.Timer{}, l...)
	sort.Slice(all, func(i, j int) bool { return before(all[i], all[j]) })
	return all
}

// alike tells whether both have just the same timers, in whatever order.
func alike(a, b []api.Timer) bool {
	return slices.Equal(inOrder(a), inOrder(b))
}

// isRight tells whether h is a right heap.
func isRight(h []api.Timer) bool {
	return heap.Check(h) == api.OK
}

// parts are the timers of which is tells it, and the others, both in order.
func parts(l []api.Timer, is func(api.Timer) bool) (yes, no []api.Timer) {
	for _, t := range inOrder(l) {
		if is(t) {
			yes = append(yes, t)
		} else {
			no = append(no, t)
		}
	}
	return yes, no
}

// row are so many timers, in order: two of each Due, from 0 on; ten Kinds, seven Refs.
func row(many int) []api.Timer {
	var l []api.Timer
	for i := range many {
		l = append(l, api.Timer{Due: int64(i / 2), Seq: int64(i), Kind: uint8(i % 10), Ref: int64(i % 7)})
	}
	return l
}

// chance is a heap of so many timers of few Dues, the ends of all numbers among them.
func chance(r *rand.Rand, many int) []api.Timer {
	var l []api.Timer
	for _, seq := range r.Perm(many) {
		t := api.Timer{Due: r.Int63n(12) - 3, Seq: int64(seq - many/2), Kind: uint8(r.Intn(3)), Ref: r.Int63n(3) - 1}
		switch r.Intn(12) {
		case 0:
			t.Due = math.MinInt64
		case 1:
			t.Due = math.MaxInt64
		}
		l = append(l, t)
	}
	h, _ := heap.Make(l...)
	return h
}

// laid is a heap whose timers stand in another order than that they come in.
func laid() []api.Timer {
	return []api.Timer{
		{Due: 1, Seq: 5, Kind: 1, Ref: 4}, {Due: 9, Seq: 1, Kind: 2, Ref: 4}, {Due: 2, Seq: 9, Kind: 1, Ref: 5},
		{Due: 10, Seq: 2, Kind: 1, Ref: 4}, {Due: 9, Seq: 4, Kind: 2, Ref: 4}, {Due: 5, Seq: 3, Kind: 1, Ref: 4},
		{Due: 2, Seq: 10, Kind: 1, Ref: 4}, {Due: 11, Seq: 7, Kind: 255, Ref: -1}, {Due: 10, Seq: 6, Kind: 0, Ref: 0},
	}
}

// heaps are right heaps.
func heaps() [][]api.Timer {
	all := [][]api.Timer{
		nil,
		{},
		{{}},
		{{Due: 5, Seq: 1, Kind: 1, Ref: 1}},
		{{Due: math.MaxInt64, Seq: math.MaxInt64, Kind: 255, Ref: math.MaxInt64}},
		{{Due: math.MinInt64, Seq: math.MinInt64, Ref: math.MinInt64}},
		{{Due: 3, Seq: 2}, {Due: 9, Seq: 3}, {Due: 5, Seq: 1}},
		{{Due: 3, Seq: 1}, {Due: 3, Seq: 3}, {Due: 3, Seq: 2}, {Due: 3, Seq: 4}},
		laid(),
	}
	r := rand.New(rand.NewSource(16))
	for many := range 50 {
		all = append(all, chance(r, many))
	}
	return append(all, row(300))
}

// times are some that are not due yet, due just then, and due already, for all heaps.
func times() []int64 {
	all := []int64{math.MinInt64, math.MinInt64 + 1, math.MaxInt64 - 1, math.MaxInt64, 100, 149, 150}
	for t := range int64(14) {
		all = append(all, t-4)
	}
	return all
}

// wrong are lists that are no right heaps.
func wrong() map[string][]api.Timer {
	low := row(4096)
	low[4095].Due = 3
	return map[string][]api.Timer{
		"two of one Seq":       {{Due: 1, Seq: 7}, {Due: 2, Seq: 7}},
		"twice the same":       {{Due: 1, Seq: 7}, {Due: 1, Seq: 7}},
		"wrong by Due":         {{Due: 2, Seq: 1}, {Due: 1, Seq: 2}},
		"wrong by Seq":         {{Due: 2, Seq: 2}, {Due: 2, Seq: 1}},
		"the third one":        {{Due: 2, Seq: 1}, {Due: 3, Seq: 2}, {Due: 1, Seq: 3}},
		"the last of 4096":     low,
		"one timer too many":   row(4097),
		"many timers too many": row(9000),
	}
}

func TestAllCheckFirst(t *testing.T) { // 16.1, 16.2
	for name, h := range wrong() {
		if x, err := due.Next(h); x != (api.Timer{}) || err != api.ErrForm {
			t.Errorf("%s: Next is %v, %d, not ErrForm", name, x, err)
		}
		for _, n := range []int64{math.MinInt64, 0, 1, 2, 7, math.MaxInt64} {
			if l, x, err := due.Drain(h, n); len(l) != 0 || len(x) != 0 || err != api.ErrForm {
				t.Errorf("%s: Drain(%d) is %v, %v, %d, not ErrForm", name, n, l, x, err)
			}
			if i, err := due.Count(h, n); i != 0 || err != api.ErrForm {
				t.Errorf("%s: Count(%d) is %d, %d, not ErrForm", name, n, i, err)
			}
			for _, at := range []int64{0, 5, math.MaxInt64} {
				if l, err := due.Move(h, n, at); len(l) != 0 || err != api.ErrForm {
					t.Errorf("%s: Move(%d, %d) is %v, %d, not ErrForm", name, n, at, l, err)
				}
			}
			for _, kind := range []uint8{0, 1, 9} {
				if l, err := due.Of(h, kind, n); len(l) != 0 || err != api.ErrForm {
					t.Errorf("%s: Of(%d, %d) is %v, %d, not ErrForm", name, kind, n, l, err)
				}
				if l, i, err := due.Clear(h, kind, n); len(l) != 0 || i != 0 || err != api.ErrForm {
					t.Errorf("%s: Clear(%d, %d) is %v, %d, %d, not ErrForm", name, kind, n, l, i, err)
				}
			}
		}
	}
}

func TestNext(t *testing.T) { // 16.1
	for _, h := range append(heaps(), row(4096)) {
		x, err := due.Next(h)
		if len(h) == 0 {
			if x != (api.Timer{}) || err != api.ErrNone {
				t.Errorf("Next of none is %v, %d, not ErrNone", x, err)
			}
			continue
		}
		if want := inOrder(h)[0]; x != want || err != api.OK {
			t.Errorf("Next(%v) is %v, %d, not %v", h, x, err, want)
		}
	}
}

func TestDrainAndCount(t *testing.T) { // 16.1
	for _, h := range append(heaps(), row(4096)) {
		for _, now := range times() {
			want, others := parts(h, func(x api.Timer) bool { return x.Due <= now })
			l, come, err := due.Drain(h, now)
			if !isRight(l) || !alike(l, others) || !slices.Equal(come, want) || err != api.OK {
				t.Fatalf("Drain(%v, %d) is %v, %v, %d, not %v, %v", h, now, l, come, err, others, want)
			}
			if n, err := due.Count(h, now); n != len(want) || err != api.OK {
				t.Fatalf("Count(%v, %d) is %d, %d, not %d", h, now, n, err, len(want))
			}
		}
	}
}

func TestExample(t *testing.T) { // 16.1
	h, err := heap.Make(api.Timer{Due: 9, Seq: 1}, api.Timer{Due: 3, Seq: 2}, api.Timer{Due: 5, Seq: 3})
	if err != api.OK {
		t.Fatalf("Make is %d", err)
	}
	for _, c := range []struct {
		now  int64
		come []int64
	}{
		{2, nil},
		{3, []int64{3}},
		{4, []int64{3}},
		{5, []int64{3, 5}},
		{8, []int64{3, 5}},
		{9, []int64{3, 5, 9}},
	} {
		l, come, err := due.Drain(h, c.now)
		var dues []int64
		for _, x := range come {
			dues = append(dues, x.Due)
		}
		if !slices.Equal(dues, c.come) || len(l) != 3-len(c.come) || err != api.OK {
			t.Errorf("Drain at %d: %v come, %v is left, %d", c.now, dues, l, err)
		}
		if n, err := due.Count(h, c.now); n != len(c.come) || err != api.OK {
			t.Errorf("Count at %d is %d, %d", c.now, n, err)
		}
	}
}

func TestMove(t *testing.T) { // 16.2
	for _, h := range heaps() {
		for i, x := range h[:min(len(h), 60)] {
			for _, at := range []int64{math.MinInt64, -1, 0, 1, 2, 3, 5, 9, 10, x.Due, math.MaxInt64} {
				want := slices.Clone(h)
				want[i].Due = at
				if l, err := due.Move(h, x.Seq, at); !isRight(l) || !alike(l, want) || err != api.OK {
					t.Fatalf("Move(%v, %d, %d) is %v, %d", h, x.Seq, at, l, err)
				}
			}
		}
	}
	for i := 0; i < 4096; i += 273 {
		want := row(4096)
		want[i].Due = 1000
		if l, err := due.Move(row(4096), int64(i), 1000); !isRight(l) || !alike(l, want) || err != api.OK {
			t.Errorf("Move(%d, 1000) of 4096 is %d timers, %d", i, len(l), err)
		}
	}
}

func TestMoveOfNone(t *testing.T) { // 16.2
	for _, h := range append(heaps(), row(4096)) {
		for _, seq := range []int64{1 << 40, -1 << 40, 99999} {
			for _, at := range []int64{0, math.MinInt64, math.MaxInt64} {
				if l, err := due.Move(h, seq, at); !slices.Equal(l, h) || err != api.ErrNone {
					t.Fatalf("Move(%v, %d, %d) is %v, %d, not as it was, ErrNone", h, seq, at, l, err)
				}
			}
		}
	}
}

func TestOfAndClear(t *testing.T) { // 16.2
	for _, h := range append(heaps(), row(4096)) {
		for _, kind := range []uint8{0, 1, 2, 5, 9, 77, 255} {
			for _, ref := range []int64{-1, 0, 1, 4, 5, 6, 77, math.MinInt64, math.MaxInt64} {
				want, others := parts(h, func(x api.Timer) bool { return x.Kind == kind && x.Ref == ref })
				if l, err := due.Of(h, kind, ref); !slices.Equal(l, want) || err != api.OK {
					t.Fatalf("Of(%v, %d, %d) is %v, %d, not %v", h, kind, ref, l, err, want)
				}
				l, n, err := due.Clear(h, kind, ref)
				if !isRight(l) || !alike(l, others) || n != len(want) || err != api.OK {
					t.Fatalf("Clear(%v, %d, %d) is %v, %d, %d, not %v, %d", h, kind, ref, l, n, err, others, len(want))
				}
			}
		}
	}
}

func TestOfAndClearByHand(t *testing.T) { // 16.2
	for _, c := range []struct {
		kind uint8
		ref  int64
		seqs []int64
	}{
		{1, 4, []int64{5, 10, 3, 2}},
		{2, 4, []int64{1, 4}},
		{1, 5, []int64{9}},
		{0, 0, []int64{6}},
		{255, -1, []int64{7}},
		{2, 5, nil},
		{3, 4, nil},
		{0, 4, nil},
		{4, 1, nil},
	} {
		of, err := due.Of(laid(), c.kind, c.ref)
		var seqs []int64
		for _, x := range of {
			seqs = append(seqs, x.Seq)
		}
		if !slices.Equal(seqs, c.seqs) || err != api.OK {
			t.Errorf("Of(%d, %d) has the Seqs %v, %d, not %v", c.kind, c.ref, seqs, err, c.seqs)
		}
		if l, n, err := due.Clear(laid(), c.kind, c.ref); n != len(c.seqs) || len(l) != 9-n || err != api.OK {
			t.Errorf("Clear(%d, %d) is %v, %d, %d", c.kind, c.ref, l, n, err)
		}
	}
}

func TestWhatIsLeftHasNoRoomBehind(t *testing.T) { // 16.3
	for _, h := range heaps() {
		for _, n := range []int64{-1, 0, 1, 4, 5, 100} {
			if l, _, _ := due.Drain(h, n); cap(l) != len(l) {
				t.Fatalf("Drain(%v, %d) has room for %d behind it", h, n, cap(l)-len(l))
			}
			if l, _, _ := due.Clear(h, 1, n); cap(l) != len(l) {
				t.Fatalf("Clear(%v, 1, %d) has room for %d behind it", h, n, cap(l)-len(l))
			}
		}
	}
}

// foul is a timer that stands nowhere else.
func foul() api.Timer { return api.Timer{Due: -777, Seq: -778, Kind: 77, Ref: -779} }

// spoil puts other timers into the lists, and behind them.
func spoil(lists ...[]api.Timer) {
	for _, l := range lists {
		for i := range l {
			l[i] = foul()
		}
		_ = append(l, foul(), foul())
	}
}

// roomy is the list with room behind it, and what that room has.
func roomy(l []api.Timer) ([]api.Timer, []api.Timer) {
	room := append(slices.Clone(l), slices.Repeat([]api.Timer{foul()}, 20)...)
	return room[:len(l)], room[len(l):]
}

// calls are all calls, of h, by what they answer in lists.
func calls(h []api.Timer, seq int64) map[string]func() [][]api.Timer {
	one := func(l []api.Timer, _ api.Errno) [][]api.Timer { return [][]api.Timer{l} }
	both := func(l, x []api.Timer, _ api.Errno) [][]api.Timer { return [][]api.Timer{l, x} }
	counted := func(l []api.Timer, _ int, _ api.Errno) [][]api.Timer { return [][]api.Timer{l} }
	return map[string]func() [][]api.Timer{
		"Next":          func() [][]api.Timer { due.Next(h); return nil },
		"Count":         func() [][]api.Timer { due.Count(h, 5); return nil },
		"Drain of none": func() [][]api.Timer { return both(due.Drain(h, math.MinInt64)) },
		"Drain":         func() [][]api.Timer { return both(due.Drain(h, 3)) },
		"Drain of all":  func() [][]api.Timer { return both(due.Drain(h, math.MaxInt64)) },
		"Move":          func() [][]api.Timer { return one(due.Move(h, seq, 4)) },
		"Move of none":  func() [][]api.Timer { return one(due.Move(h, 1<<40, 4)) },
		"Of":            func() [][]api.Timer { return one(due.Of(h, 1, 1)) },
		"Of none":       func() [][]api.Timer { return one(due.Of(h, 88, 88)) },
		"Clear":         func() [][]api.Timer { return counted(due.Clear(h, 1, 1)) },
		"Clear of none": func() [][]api.Timer { return counted(due.Clear(h, 88, 88)) },
	}
}

// seqOf is the Seq of some timer of h; if h is empty, that of none.
func seqOf(h []api.Timer) int64 {
	if len(h) == 0 {
		return 1 << 41
	}
	return h[len(h)/2].Seq
}

func TestAnswersAreNewMemory(t *testing.T) { // 16.3
	for _, was := range append(heaps(), row(4096), wrong()["the third one"]) {
		h, behind := roomy(was)
		for name, call := range calls(h, seqOf(was)) {
			l, again := call(), call()
			var kept [][]api.Timer
			for _, one := range again {
				kept = append(kept, slices.Clone(one))
			}
			spoil(l...)
			for i := range again {
				if !slices.Equal(again[i], kept[i]) {
					t.Fatalf("%s of %v: two answers share memory", name, was)
				}
			}
			if !slices.Equal(h, was) {
				t.Fatalf("%s of %v: it is %v behind it", name, was, h)
			}
			if slices.ContainsFunc(behind, func(x api.Timer) bool { return x != foul() }) {
				t.Fatalf("%s of %v: the room behind it is changed", name, was)
			}
		}
	}
}

func TestWhatIsHandedInIsNotKept(t *testing.T) { // 16.3
	for _, was := range append(heaps(), row(4096)) {
		h := slices.Clone(was)
		for name, call := range calls(h, seqOf(was)) {
			copy(h, was)
			l := call()
			var kept [][]api.Timer
			for _, one := range l {
				kept = append(kept, slices.Clone(one))
			}
			spoil(h)
			for i := range l {
				if !slices.Equal(l[i], kept[i]) {
					t.Fatalf("%s of %v keeps what was handed in", name, was)
				}
			}
		}
	}
}

func TestTheListsOfOneAnswerShareNothing(t *testing.T) { // 16.3
	for _, h := range heaps() {
		for _, now := range times() {
			l, come, _ := due.Drain(h, now)
			kept := slices.Clone(come)
			spoil(l)
			if !slices.Equal(come, kept) {
				t.Fatalf("Drain(%v, %d): what is left is also what came", h, now)
			}
			l, come, _ = due.Drain(h, now)
			kept = slices.Clone(l)
			spoil(come)
			if !slices.Equal(l, kept) {
				t.Fatalf("Drain(%v, %d): what came is also what is left", h, now)
			}
		}
	}
}

func TestDrainedInPieces(t *testing.T) { // 16.4
	for _, h := range heaps() {
		for _, a := range times() {
			for _, b := range times() {
				if a > b {
					continue
				}
				left, first, err1 := due.Drain(h, a)
				left, then, err2 := due.Drain(left, b)
				once, all, err3 := due.Drain(h, b)
				if !slices.Equal(slices.Concat(first, then), all) || !alike(left, once) || !isRight(left) {
					t.Fatalf("%v, drained at %d: %v, and at %d: %v, at once: %v", h, a, first, b, then, all)
				}
				if err1 != api.OK || err2 != api.OK || err3 != api.OK {
					t.Fatalf("%v, drained at %d and %d: %d, %d, %d", h, a, b, err1, err2, err3)
				}
			}
		}
	}
}

func TestDrainedTwiceNothingMoreComes(t *testing.T) { // 16.4
	for _, h := range heaps() {
		for _, now := range times() {
			left, _, _ := due.Drain(h, now)
			if again, come, err := due.Drain(left, now); len(come) != 0 || !alike(again, left) || err != api.OK {
				t.Fatalf("%v, drained at %d, and again: %v, %v, %d", h, now, again, come, err)
			}
			if n, err := due.Count(left, now); n != 0 || err != api.OK {
				t.Fatalf("%v, drained at %d: Count is %d, %d", h, now, n, err)
			}
		}
	}
}
