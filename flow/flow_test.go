package flow_test

import (
	"fmt"
	"math"
	"slices"
	"strings"
	"testing"

	"bellman/api"
	"bellman/flow"
)

const (
	maxCount = int64(1) << 40
	minTime  = int64(-62135596800)
	maxTime  = int64(253402300799)
)

var (
	noNames  = []string{"", "A", "Ann", "1a", "_a", "a.b", "a b", "a-b", " a", "a ", "\u00e9", "a\x00", "a\n", strings.Repeat("a", 33), strings.Repeat("a", 100000)}
	names    = []string{"a", "z", "a0", "a_", "ab", "ann", "x9_", strings.Repeat("z", 32)}
	noCounts = []int64{0, -1, -maxCount, math.MinInt64, maxCount + 1, math.MaxInt64}
	counts   = []int64{1, 2, 77, maxCount - 1, maxCount}
	noTimes  = []int64{minTime - 1, maxTime + 1, minTime - 2592000, maxTime + 2592000, math.MinInt64, math.MaxInt64}
	times    = []int64{minTime, minTime + 1, -1, 0, 1, 1774785600, maxTime - 1, maxTime}
)

// made is a right flow that has not begun.
func made() api.Flow {
	return api.Flow{Id: 5, User: "ann", Category: "news", Events: []int64{3, 8, 9}}
}

// with is a right flow, of which some things are others.
func with(change func(f *api.Flow)) api.Flow {
	f := made()
	change(&f)
	return f
}

// of is a right flow of those events.
func of(events ...int64) api.Flow {
	return with(func(f *api.Flow) { f.Events = events })
}

// upTo are so many events, rising.
func upTo(n int64) []int64 {
	var l []int64
	for i := range n {
		l = append(l, 10+i*i)
	}
	return l
}

// rights are right flows, each edge among them.
func rights() []api.Flow {
	all := []api.Flow{made(), of(upTo(16)...), of(upTo(15)...), of(1, maxCount), of(maxCount-1, maxCount), of(1, 2, 3)}
	for _, n := range counts {
		all = append(all, of(n), with(func(f *api.Flow) { f.Id = n }), with(func(f *api.Flow) { f.Message = n }))
	}
	for _, at := range times {
		all = append(all, with(func(f *api.Flow) { f.At = at }))
	}
	for _, name := range names {
		all = append(all, with(func(f *api.Flow) { f.User = name }), with(func(f *api.Flow) { f.Category = name }))
	}
	for n := range 8 {
		all = append(all, with(func(f *api.Flow) { f.Phase = api.FlowPhase(n) }), with(func(f *api.Flow) { f.Phase, f.Bad = api.FlowPhase(n), true }))
	}
	for n := range 5 {
		all = append(all, with(func(f *api.Flow) { f.Level = n }), with(func(f *api.Flow) { f.Rank = n }))
	}
	for n := range 6 {
		all = append(all, with(func(f *api.Flow) { f.Tries = n }))
	}
	most := api.Flow{Id: maxCount, User: names[7], Category: names[7], Events: upTo(16), Phase: 7, Level: 4, Rank: 4, Tries: 5, Message: maxCount, At: maxTime, Bad: true}
	return append(all, most)
}

// wrongs are flows that are not right, each by one thing.
func wrongs() map[string]api.Flow {
	all := map[string]api.Flow{
		"nothing":          {},
		"no events":        of(),
		"17 events":        of(upTo(17)...),
		"many events":      of(upTo(1000)...),
		"one event twice":  of(3, 3),
		"falling":          of(2, 1),
		"falling at last":  of(append(upTo(15), 9)...),
		"falling between":  of(1, 5, 4, 7),
		"falling at first": of(6, 5, 7),
		"message -1":       with(func(f *api.Flow) { f.Message = -1 }),
	}
	for i, n := range noCounts {
		all[fmt.Sprint("no id ", i)] = with(func(f *api.Flow) { f.Id = n })
		all[fmt.Sprint("no event ", i)] = of(n)
		all[fmt.Sprint("no event behind one ", i)] = of(1, n)
		all[fmt.Sprint("no event ahead of one ", i)] = of(n, maxCount)
		if n != 0 {
			all[fmt.Sprint("no message ", i)] = with(func(f *api.Flow) { f.Message = n })
		}
	}
	for i, at := range noTimes {
		all[fmt.Sprint("no time ", i)] = with(func(f *api.Flow) { f.At = at })
	}
	for i, name := range noNames {
		all[fmt.Sprint("no user ", i)] = with(func(f *api.Flow) { f.User = name })
		all[fmt.Sprint("no category ", i)] = with(func(f *api.Flow) { f.Category = name })
	}
	for _, n := range []int{8, 9, 100, 255} {
		all[fmt.Sprint("no phase ", n)] = with(func(f *api.Flow) { f.Phase = api.FlowPhase(n) })
	}
	for _, n := range []int{-1, -5, math.MinInt, 5, 6, 256, math.MaxInt} {
		all[fmt.Sprint("no level ", n)] = with(func(f *api.Flow) { f.Level = n })
		all[fmt.Sprint("no rank ", n)] = with(func(f *api.Flow) { f.Rank = n })
		if n != 5 {
			all[fmt.Sprint("no tries ", n)] = with(func(f *api.Flow) { f.Tries = n })
		}
	}
	return all
}

// told is something as a text; nil and empty lists are told alike.
func told(of ...any) string {
	return fmt.Sprintf("%+v", of)
}

func TestCheckTellsWhatIsRight(t *testing.T) { // 21.1
	for _, f := range rights() {
		if err := flow.Check(f); err != api.OK {
			t.Errorf("Check of %+v is %d", f, err)
		}
	}
	for name, f := range wrongs() {
		if err := flow.Check(f); err != api.ErrForm {
			t.Errorf("%s: Check is %d, not ErrForm", name, err)
		}
	}
}

func TestEndedTellsWhetherItHas(t *testing.T) { // 21.1
	for _, f := range rights() {
		want := f.Phase == api.FlowAcked || f.Phase == api.FlowDone || f.Phase == api.FlowOff || f.Phase == api.FlowFailed
		if is, err := flow.Ended(f); is != want || err != api.OK {
			t.Errorf("Ended of %+v is %t, %d", f, is, err)
		}
	}
	for name, f := range wrongs() {
		for _, phase := range []api.FlowPhase{f.Phase, api.FlowAcked, api.FlowFailed} {
			if f.Phase < api.FlowCount {
				f.Phase = phase
			}
			if is, err := flow.Ended(f); is || err != api.ErrForm {
				t.Errorf("%s: Ended is %t, %d, not ErrForm", name, is, err)
			}
		}
	}
}

func TestMakeTellsAFlowThatHasNotBegun(t *testing.T) { // 21.1
	for _, id := range counts {
		for _, name := range names {
			for _, events := range [][]int64{{1}, {id}, upTo(2), upTo(15), upTo(16), {1, maxCount}} {
				want := api.Flow{Id: id, User: name, Category: "c" + name[1:], Events: events}
				if f, err := flow.Make(id, name, "c"+name[1:], events...); told(f) != told(want) || err != api.OK {
					t.Errorf("Make is %+v, %d, not %+v", f, err, want)
				}
			}
		}
	}
}

func TestMakeRefuses(t *testing.T) { // 21.1
	none := told(api.Flow{})
	for _, name := range noNames {
		for _, id := range append([]int64{7}, noCounts...) {
			// No name is told ahead of no number, and of no events.
			for _, events := range [][]int64{{1, 2}, nil, {2, 1}, {0}} {
				for _, both := range [][2]string{{name, "news"}, {"ann", name}, {name, name}} {
					if f, err := flow.Make(id, both[0], both[1], events...); told(f) != none || err != api.ErrName {
						t.Fatalf("Make(%d, %.40q, %.40q, %v) is %+v, %d, not ErrName", id, both[0], both[1], events, f, err)
					}
				}
			}
		}
	}
	for _, id := range noCounts {
		for _, events := range [][]int64{{1, 2}, nil, {2, 1}} {
			if f, err := flow.Make(id, "ann", "news", events...); told(f) != none || err != api.ErrRange {
				t.Errorf("Make(%d, %v) is %+v, %d, not ErrRange", id, events, f, err)
			}
		}
	}
	for name, f := range wrongs() {
		if !slices.Contains(noNames, f.User) && !slices.Contains(noNames, f.Category) && told(f.Events) != told(made().Events) {
			if f, err := flow.Make(1, "ann", "news", f.Events...); told(f) != none || err != api.ErrRange {
				t.Errorf("%s: Make is %+v, %d, not ErrRange", name, f, err)
			}
		}
	}
	if f, err := flow.Make(1, "ann", "news"); told(f) != none || err != api.ErrRange {
		t.Errorf("Make without events is %+v, %d, not ErrRange", f, err)
	}
}

func TestAckTellsAnAnswer(t *testing.T) { // 21.3, 21.5
	for _, f := range rights() {
		for _, rank := range []int{0, 1, 4} {
			for _, at := range times {
				for _, bad := range []bool{false, true} {
					f.Rank, f.Bad = rank, bad
					want, no := f, api.ErrState
					if f.Phase <= api.FlowPaused && rank > 0 {
						want.Phase, want.Bad, want.At, no = api.FlowAcked, false, at, api.OK
					}
					if g, err := flow.Ack(f, at); told(g) != told(want) || err != no {
						t.Fatalf("Ack(%+v, %d) is %+v, %d, not %+v, %d", f, at, g, err, want, no)
					}
				}
			}
		}
	}
}

func TestFailTellsWhatFailed(t *testing.T) { // 21.3, 21.5
	for _, f := range rights() {
		for _, rank := range []int{0, 1, 4} {
			for _, at := range times {
				for _, bad := range []bool{false, true} {
					f.Rank, f.Bad = rank, bad
					want, no := f, api.ErrState
					if f.Phase <= api.FlowPaused {
						want.Phase, want.Bad, want.At, no = api.FlowFailed, true, at, api.OK
					}
					if g, err := flow.Fail(f, at); told(g) != told(want) || err != no {
						t.Fatalf("Fail(%+v, %d) is %+v, %d, not %+v, %d", f, at, g, err, want, no)
					}
				}
			}
		}
	}
}

func TestAckAndFailRefuse(t *testing.T) { // 21.3
	calls := map[string]func(api.Flow, int64) (api.Flow, api.Errno){"Ack": flow.Ack, "Fail": flow.Fail}
	for name, call := range calls {
		for wrong, f := range wrongs() {
			// What is not right is told ahead of no time, and of that it has ended.
			for _, at := range append([]int64{60}, noTimes...) {
				if g, err := call(f, at); told(g) != told(api.Flow{}) || err != api.ErrForm {
					t.Fatalf("%s: %s at %d is %+v, %d, not ErrForm", wrong, name, at, g, err)
				}
			}
		}
		for _, f := range rights() {
			// No time is told ahead of that it has ended, or was never sent.
			for _, at := range noTimes {
				if g, err := call(f, at); told(g) != told(f) || err != api.ErrRange {
					t.Fatalf("%s of %+v at %d is %+v, %d, not ErrRange", name, f, at, g, err)
				}
			}
		}
	}
}
