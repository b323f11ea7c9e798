package sent_test

import (
	"fmt"
	"math"
	"slices"
	"strings"
	"testing"

	"bellman/api"
	"bellman/sent"
)

const (
	maxCount = int64(1) << 40
	minTime  = int64(-62135596800)
	maxTime  = int64(253402300799)
)

var (
	noNames  = []string{"", "A", "Ann", "1a", "_a", "a.b", "a b", "a-b", " a", "a ", "\u00e9", "a\x00", "a\n", strings.Repeat("a", 33), strings.Repeat("a", 100000)}
	names    = []string{"a", "z", "a0", "a_", "ab", "ann", "x9_", strings.Repeat("z", 32)}
	noCounts = []int64{0, -1, -maxCount, math.MinInt64, maxCount + 1, math.MaxInt64}
	counts   = []int64{1, 2, 77, 255, 256, maxCount - 1, maxCount}
	noTimes  = []int64{minTime - 1, maxTime + 1, minTime - 2592000, math.MinInt64, math.MaxInt64}
	times    = []int64{minTime, minTime + 1, -1, 0, 1, 1774785600, maxTime - 1, maxTime}
	most     = []int{0, 256, 2048, 160} // bytes that a message has by each channel
)

// message is a right one.
func message() api.Message {
	return api.Message{Id: 7, Flow: 2, User: "ann", Category: "news", Channel: 2, Rank: 1, Try: 3, At: 60, Text: "ann: 2"}
}

// with is a right message, of which some things are others.
func with(change func(m *api.Message)) api.Message {
	m := message()
	change(&m)
	return m
}

// rights are right messages, each edge among them.
func rights() []api.Message {
	all := []api.Message{message()}
	for _, n := range counts {
		all = append(all, with(func(m *api.Message) { m.Id = n }), with(func(m *api.Message) { m.Flow = n }))
	}
	for _, at := range times {
		all = append(all, with(func(m *api.Message) { m.At = at }))
	}
	for _, name := range names {
		all = append(all, with(func(m *api.Message) { m.User = name }), with(func(m *api.Message) { m.Category = name }))
	}
	for c := 1; c < 4; c++ {
		for _, n := range []int{0, 1, 100, most[c] - 1, most[c]} {
			all = append(all, with(func(m *api.Message) { m.Channel, m.Text = api.Channel(c), strings.Repeat("\xff", n) }))
		}
	}
	for n := range 4 {
		all = append(all, with(func(m *api.Message) { m.Rank = n }))
	}
	for n := range 5 {
		all = append(all, with(func(m *api.Message) { m.Try = n + 1 }))
	}
	return all
}

// wrongs are messages that are not right, each by one thing.
func wrongs() map[string]api.Message {
	all := map[string]api.Message{"nothing": {}}
	for i, n := range noCounts {
		all[fmt.Sprint("no id ", i)] = with(func(m *api.Message) { m.Id = n })
		all[fmt.Sprint("no flow ", i)] = with(func(m *api.Message) { m.Flow = n })
	}
	for i, at := range noTimes {
		all[fmt.Sprint("no time ", i)] = with(func(m *api.Message) { m.At = at })
	}
	for i, name := range noNames {
		all[fmt.Sprint("no user ", i)] = with(func(m *api.Message) { m.User = name })
		all[fmt.Sprint("no category ", i)] = with(func(m *api.Message) { m.Category = name })
	}
	for _, c := range []api.Channel{0, 4, 5, 100, 255} {
		all[fmt.Sprint("no channel ", c)] = with(func(m *api.Message) { m.Channel, m.Text = c, "" })
	}
	for c := 1; c < 4; c++ {
		for _, n := range []int{most[c] + 1, most[c] + 2, 4096, 4097, 1 << 20} {
			all[fmt.Sprint("too long ", c, n)] = with(func(m *api.Message) { m.Channel, m.Text = api.Channel(c), strings.Repeat("x", n) })
		}
	}
	for _, n := range []int{-1, -2, math.MinInt, 4, 5, 256, math.MaxInt} {
		all[fmt.Sprint("no rank ", n)] = with(func(m *api.Message) { m.Rank = n })
	}
	for _, n := range []int{0, -1, math.MinInt, 6, 7, 256, math.MaxInt} {
		all[fmt.Sprint("no try ", n)] = with(func(m *api.Message) { m.Try = n })
	}
	return all
}

// told is something as a text; nil and empty lists are told alike.
func told(of ...any) string {
	return fmt.Sprintf("%+v", of)
}

func TestCheckTellsWhatIsRight(t *testing.T) { // 22.1
	for _, m := range rights() {
		if err := sent.Check(m); err != api.OK {
			t.Errorf("Check of %+v is %d", m, err)
		}
	}
	for name, m := range wrongs() {
		if err := sent.Check(m); err != api.ErrForm {
			t.Errorf("%s: Check is %d, not ErrForm", name, err)
		}
	}
}

// once is what Once must tell of right messages.
func once(l []api.Message) ([]api.Message, int, api.Errno) {
	var all []api.Message
	for i, m := range l {
		for _, ahead := range l[:i] {
			if ahead.Id == m.Id && ahead != m {
				return nil, 0, api.ErrTwice
			}
		}
		if !slices.Contains(l[:i], m) {
			all = append(all, m)
		}
	}
	return all, len(l) - len(all), api.OK
}

// others are the message, and each one that has one thing another one.
func others() []api.Message {
	return []api.Message{
		message(),
		with(func(m *api.Message) { m.Id = 8 }),
		with(func(m *api.Message) { m.Flow = 3 }),
		with(func(m *api.Message) { m.User = "bob" }),
		with(func(m *api.Message) { m.Category = "old" }),
		with(func(m *api.Message) { m.Channel = 1 }),
		with(func(m *api.Message) { m.Rank = 2 }),
		with(func(m *api.Message) { m.Try = 4 }),
		with(func(m *api.Message) { m.At = 61 }),
		with(func(m *api.Message) { m.Text = "ann: 3" }),
	}
}

// rows are lists of at most four of the messages.
func rows(ones []api.Message) [][]api.Message {
	all := [][]api.Message{nil, {}}
	for at := 1; at < len(all); at++ {
		if len(all[at]) == 4 {
			break
		}
		for _, m := range ones {
			all = append(all, append(slices.Clone(all[at]), m))
		}
	}
	return all
}

func TestOnceTellsEachMessageOnce(t *testing.T) { // 22.3, 22.6
	many := rows(others())
	if len(many) != 2+10+100+1000+10000 {
		t.Fatalf("there are %d lists", len(many))
	}
	var ones []api.Message
	for id := range int64(5) {
		ones = append(ones, with(func(m *api.Message) { m.Id = id + 1 }))
	}
	fine := 0
	for _, l := range append(many, rows(ones)...) {
		want, gone, no := once(l)
		all, n, err := sent.Once(l)
		if told(all) != told(want) || n != gone || err != no {
			t.Fatalf("Once(%+v) is %+v, %d, %d, not %+v, %d, %d", l, all, n, err, want, gone, no)
		}
		if again, n, err := sent.Once(all); told(again) != told(all) || n != 0 || err != api.OK {
			t.Fatalf("Once of Once is %+v, %d, %d", again, n, err)
		}
		if err == api.OK {
			fine++
		}
	}
	if fine < 700 {
		t.Errorf("Once told %d lists", fine)
	}
}

func TestOnceOfManyMessages(t *testing.T) { // 22.3
	var l, want []api.Message
	for i := range 3000 {
		m := with(func(m *api.Message) { m.Id, m.Text = int64(5000-i*i%1000), "x" })
		if !slices.Contains(want, m) {
			want = append(want, m)
		}
		l = append(l, m)
	}
	if all, n, err := sent.Once(l); !slices.Equal(all, want) || n != 3000-len(want) || err != api.OK {
		t.Errorf("Once tells %d messages, and %d gone, %d", len(all), n, err)
	}
	l[2999].Text = "y"
	if all, n, err := sent.Once(l); len(all) != 0 || n != 0 || err != api.ErrTwice {
		t.Errorf("Once tells %d messages, and %d gone, %d, not ErrTwice", len(all), n, err)
	}
}

func TestOnceRefusesWhatIsNotRight(t *testing.T) { // 22.3
	good, other := message(), with(func(m *api.Message) { m.Text = "other" })
	for name, m := range wrongs() {
		// What is not right is told ahead of what is twice.
		for _, l := range [][]api.Message{{m}, {m, m}, {good, m}, {m, good}, {good, other, m}, {good, m, other}, {m, good, other}} {
			if all, n, err := sent.Once(l); len(all) != 0 || n != 0 || err != api.ErrForm {
				t.Fatalf("%s: Once is %v, %d, %d, not ErrForm", name, all, n, err)
			}
		}
	}
}
