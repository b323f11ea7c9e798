package batch_test

import (
	"fmt"
	"math"
	"math/rand"
	"slices"
	"strings"
	"testing"

	"bellman/api"
	"bellman/batch"
)

const (
	maxCount = int64(1) << 40
	maxSpan  = int64(2592000)
	minTime  = int64(-62135596800)
	maxTime  = int64(253402300799)
)

var (
	noNames  = []string{"", "A", "Ann", "1a", "_a", "a.b", "a b", "a-b", " a", "a ", "\u00e9", "a\x00", "a\n", strings.Repeat("a", 33), strings.Repeat("a", 100000)}
	names    = []string{"a", "z", "a0", "a_", "ab", "ann", "x9_", strings.Repeat("z", 32)}
	noCounts = []int64{0, -1, -maxCount, math.MinInt64, maxCount + 1, math.MaxInt64}
	counts   = []int64{1, 2, 77, maxCount - 1, maxCount}
	noTimes  = []int64{minTime - 1, maxTime + 1, minTime - maxSpan, math.MinInt64, math.MaxInt64}
	times    = []int64{minTime, minTime + 1, -1, 0, 1, 1774785600, maxTime - 1, maxTime}
)

// batched is a right batch.
func batched() api.Batch {
	return api.Batch{Id: 5, User: "ann", Category: "news", Events: []int64{3, 8, 9}, Close: 60}
}

// with is a right batch, of which one thing is another one.
func with(change func(b *api.Batch)) api.Batch {
	b := batched()
	change(&b)
	return b
}

// of is a right batch of those events.
func of(events ...int64) api.Batch {
	return with(func(b *api.Batch) { b.Events = events })
}

// upTo are so many events, rising.
func upTo(n int64) []int64 {
	var l []int64
	for i := range n {
		l = append(l, 10+i*i)
	}
	return l
}

// rights are right batches, each edge among them.
func rights() []api.Batch {
	all := []api.Batch{batched(), of(upTo(16)...), of(upTo(15)...), of(1, maxCount), of(maxCount-1, maxCount), of(1, 2, 3)}
	for _, n := range counts {
		all = append(all, of(n), with(func(b *api.Batch) { b.Id = n }))
	}
	for _, at := range times {
		all = append(all, with(func(b *api.Batch) { b.Close = at }))
	}
	for _, name := range names {
		all = append(all, with(func(b *api.Batch) { b.User = name }), with(func(b *api.Batch) { b.Category = name }))
	}
	return all
}

// wrongs are batches that are not right, each by one thing.
func wrongs() map[string]api.Batch {
	all := map[string]api.Batch{
		"nothing":          {},
		"no events":        of(),
		"17 events":        of(upTo(17)...),
		"many events":      of(upTo(1000)...),
		"one event twice":  of(3, 3),
		"the last twice":   of(append(upTo(15), upTo(15)[14])...),
		"falling":          of(2, 1),
		"falling at last":  of(append(upTo(15), 9)...),
		"falling between":  of(1, 5, 4, 7),
		"falling at first": of(6, 5, 7),
	}
	for i, n := range noCounts {
		all[fmt.Sprint("no id ", i)] = with(func(b *api.Batch) { b.Id = n })
		all[fmt.Sprint("no event ", i)] = of(n)
		all[fmt.Sprint("no event behind one ", i)] = of(1, n)
		all[fmt.Sprint("no event ahead of one ", i)] = of(n, maxCount)
		all[fmt.Sprint("no event among some ", i)] = of(1, n, maxCount)
	}
	for i, at := range noTimes {
		all[fmt.Sprint("no time ", i)] = with(func(b *api.Batch) { b.Close = at })
	}
	for i, name := range noNames {
		all[fmt.Sprint("no user ", i)] = with(func(b *api.Batch) { b.User = name })
		all[fmt.Sprint("no category ", i)] = with(func(b *api.Batch) { b.Category = name })
		all[fmt.Sprint("no names ", i)] = with(func(b *api.Batch) { b.User, b.Category = name, name })
	}
	return all
}

// told is something as a text; nil and empty lists are told alike.
func told(of ...any) string {
	return fmt.Sprintf("%+v", of)
}

func TestCheckTellsWhatIsRight(t *testing.T) { // 20.1
	for _, b := range rights() {
		if err := batch.Check(b); err != api.OK {
			t.Errorf("Check of %v is %d", b, err)
		}
	}
	for name, b := range wrongs() {
		if err := batch.Check(b); err != api.ErrForm {
			t.Errorf("%s: Check is %d, not ErrForm", name, err)
		}
	}
}

func TestCheckTellsOfAllTriplesOfEvents(t *testing.T) { // 20.1
	all := []int64{-1, 0, 1, 2, 3, maxCount, maxCount + 1}
	for i, a := range all {
		for j, b := range all {
			for k, c := range all {
				want := api.ErrForm
				if i >= 2 && i < j && j < k && k <= 5 {
					want = api.OK
				}
				if err := batch.Check(of(a, b, c)); err != want {
					t.Errorf("Check of %d, %d, %d is %d, not %d", a, b, c, err, want)
				}
			}
		}
	}
}

func TestExampleOfTheChapter(t *testing.T) { // 20.1
	b, err := batch.Open(3, "ann", "news", 7, 0, 60)
	want := api.Batch{Id: 3, User: "ann", Category: "news", Events: []int64{7}, Close: 60}
	if told(b) != told(want) || err != api.OK {
		t.Errorf("Open is %v, %d", b, err)
	}
}

func TestOpenTellsABatch(t *testing.T) { // 20.1
	for _, id := range counts {
		for _, event := range counts {
			for _, name := range names {
				for _, at := range []int64{minTime, -maxSpan, -1, 0, 1774785600, maxTime - maxSpan} {
					for _, window := range []int64{1, 2, 60, maxSpan - 1, maxSpan} {
						want := api.Batch{Id: id, User: name, Category: "news", Events: []int64{event}, Close: at + window}
						if b, err := batch.Open(id, name, "news", event, at, window); told(b) != told(want) || err != api.OK || batch.Check(b) != api.OK {
							t.Fatalf("Open(%d, %s, news, %d, %d, %d) is %v, %d", id, name, event, at, window, b, err)
						}
					}
				}
			}
		}
	}
	for _, name := range names {
		if b, err := batch.Open(1, "ann", name, 1, 0, 1); b.User != "ann" || b.Category != name || err != api.OK {
			t.Errorf("Open with %s is %v, %d", name, b, err)
		}
	}
}

// opened tells whether Open answers nothing, and that error.
func opened(t *testing.T, want api.Errno, id int64, user, category string, event, at, window int64) {
	t.Helper()
	if b, err := batch.Open(id, user, category, event, at, window); told(b) != told(api.Batch{}) || err != want {
		t.Errorf("Open(%d, %.40q, %.40q, %d, %d, %d) is %v, %d, not %d", id, user, category, event, at, window, b, err, want)
	}
}

func TestOpenRefusesWhatIsNoName(t *testing.T) { // 20.1
	for _, name := range noNames {
		// It is told ahead of all else.
		for _, id := range []int64{1, 0} {
			for _, event := range []int64{1, maxCount + 1} {
				for _, at := range []int64{0, maxTime, maxTime + 1} {
					for _, window := range []int64{1, 0, maxSpan + 1} {
						opened(t, api.ErrName, id, name, "news", event, at, window)
						opened(t, api.ErrName, id, "ann", name, event, at, window)
						opened(t, api.ErrName, id, name, name, event, at, window)
					}
				}
			}
		}
	}
}

func TestOpenRefusesWhatIsOutOfRange(t *testing.T) { // 20.1
	// It is told ahead of a close that is no time, at which each of these would be.
	for _, at := range []int64{0, maxTime} {
		for _, n := range noCounts {
			opened(t, api.ErrRange, n, "ann", "news", 1, at, 1)
			opened(t, api.ErrRange, 1, "ann", "news", n, at, 1)
			opened(t, api.ErrRange, n, "ann", "news", n, at, 0)
		}
		for _, window := range []int64{0, -1, -60, math.MinInt64, maxSpan + 1, math.MaxInt64} {
			opened(t, api.ErrRange, 1, "ann", "news", 1, at, window)
		}
	}
	for _, at := range noTimes {
		for _, window := range []int64{1, maxSpan} {
			opened(t, api.ErrRange, 1, "ann", "news", 1, at, window)
		}
	}
}

func TestOpenRefusesWhatClosesTooLate(t *testing.T) { // 20.1
	for _, window := range []int64{1, 2, 60, maxSpan - 1, maxSpan} {
		want := api.Batch{Id: 1, User: "ann", Category: "news", Events: []int64{1}, Close: maxTime}
		if b, err := batch.Open(1, "ann", "news", 1, maxTime-window, window); told(b) != told(want) || err != api.OK {
			t.Errorf("Open with %d ahead of the end is %v, %d", window, b, err)
		}
		opened(t, api.ErrClock, 1, "ann", "news", 1, maxTime-window+1, window)
		opened(t, api.ErrClock, 1, "ann", "news", 1, maxTime, window)
	}
}

func TestAddTellsOneMore(t *testing.T) { // 20.1
	for n := int64(1); n < 16; n++ {
		l := upTo(n)
		last := l[n-1]
		for _, event := range []int64{last + 1, last + 2, last + 1000, maxCount - 1, maxCount} {
			want := of(append(slices.Clone(l), event)...)
			if b, err := batch.Add(of(l...), event); told(b) != told(want) || err != api.OK {
				t.Errorf("Add of %d to %v is %v, %d", event, l, b, err)
			}
		}
	}
	for _, b := range rights() {
		last := b.Events[len(b.Events)-1]
		if last == maxCount || len(b.Events) == 16 {
			continue
		}
		want := b
		want.Events = append(slices.Clone(b.Events), last+1)
		if more, err := batch.Add(b, last+1); told(more) != told(want) || err != api.OK || batch.Check(more) != api.OK {
			t.Errorf("Add to %v is %v, %d", b, more, err)
		}
	}
}

// added tells whether Add answers b as it was, and that error.
func added(t *testing.T, want api.Errno, b api.Batch, event int64) {
	t.Helper()
	was := told(b)
	if got, err := batch.Add(b, event); told(got) != was || err != want {
		t.Errorf("Add of %d to %s is %v, %d, not %d", event, was, got, err, want)
	}
}

func TestAddRefuses(t *testing.T) { // 20.1
	for n := int64(1); n <= 16; n++ {
		b := of(upTo(n)...)
		last := b.Events[n-1]
		// That it does not rise is told ahead of that there is no room.
		for _, event := range append([]int64{last, last - 1, 1, 10}, noCounts...) {
			added(t, api.ErrRange, b, event)
		}
	}
	for _, event := range []int64{maxCount, maxCount + 1, 1} {
		added(t, api.ErrRange, of(maxCount), event)
	}
	full := of(upTo(16)...)
	for _, event := range []int64{full.Events[15] + 1, 1000, maxCount} {
		added(t, api.ErrFull, full, event)
	}
	for name, b := range wrongs() {
		for _, event := range append([]int64{1, 500, 1000000, maxCount}, noCounts...) {
			if got, err := batch.Add(b, event); told(got) != told(api.Batch{}) || err != api.ErrForm {
				t.Errorf("%s: Add of %d is %v, %d, not ErrForm", name, event, got, err)
			}
		}
	}
}

func TestAnEventIsOnceInABatch(t *testing.T) { // 20.4
	r := rand.New(rand.NewSource(20))
	for range 300 {
		b, _ := batch.Open(1, "ann", "news", 1+r.Int63n(5), 0, 60)
		for range 60 {
			event := r.Int63n(40)
			more, err := batch.Add(b, event)
			times := 0
			for _, e := range more.Events {
				if e == event {
					times++
				}
			}
			if times > 1 || err == api.OK && times != 1 || batch.Check(more) != api.OK {
				t.Fatalf("%d is %d times in %v, %d", event, times, more, err)
			}
			b = more
		}
	}
}
