package state_test

import (
	"fmt"
	"math"
	"slices"
	"strings"
	"testing"

	"bellman/api"
	"bellman/heap"
	"bellman/state"
)

const (
	maxCount = int64(1) << 40
	minTime  = int64(-62135596800)
	maxTime  = int64(253402300799)
	noon     = int64(1774785600)
)

// num is a number as a value.
func num(n int64) api.Value {
	return api.Value{Kind: api.ValueNum, Num: n}
}

// category is a right one of that name.
func category(name string) api.Category {
	return api.Category{Name: name, Window: 60, Bound: 3, Chain: []api.Level{{Channel: 1, Wait: 60, Tries: 2, Pause: 5}, {Channel: 2, Tries: 1, Pause: 1}}, Source: "{{user}}: {{count}}"}
}

// event is one in a flow, or a batch, which is zero otherwise.
func event(id int64, user, category string, flow, batch int64) api.Event {
	return api.Event{Id: id, User: user, Category: category, At: noon - 100 + id, Data: num(id), Flow: flow, Batch: batch}
}

// flowOf is a right flow of those events; it was sent, if it has a message.
func flowOf(id int64, user, category string, phase api.FlowPhase, message, at int64, events ...int64) api.Flow {
	f := api.Flow{Id: id, User: user, Category: category, Events: events, Phase: phase, Message: message, At: at}
	if message > 0 {
		f.Rank, f.Tries = 1, 1
	}
	return f
}

// sample is a right state that has something of all: users, categories, two batches, flows in all phases that there may be, and the timers.
func sample() api.State {
	return api.State{
		Now: noon, Event: 20, Flow: 9, Batch: 5, Message: 6, Seq: 30,
		Users: []api.User{
			{Name: "ann", Version: 3, Quiet: api.Quiet{Zone: api.Zone{Base: 60}, Week: []api.Range{{From: 0, To: 420}}}, Outs: []api.Out{{Category: "news", Channel: 3}}},
			{Name: "bob"},
			{Name: "cid"},
		},
		Categories: []api.Category{category("alarm"), category("news"), category("sport")},
		Events: []api.Event{
			event(2, "ann", "news", 1, 0),
			event(3, "bob", "news", 2, 0),
			event(4, "ann", "news", 1, 0),
			event(5, "ann", "alarm", 3, 0),
			event(6, "bob", "news", 0, 4),
			event(7, "cid", "sport", 4, 0),
			event(8, "cid", "sport", 6, 0),
			event(9, "bob", "news", 0, 4),
			event(10, "cid", "news", 0, 5),
			event(11, "ann", "alarm", 7, 0),
			event(13, "bob", "alarm", 9, 0),
			event(14, "bob", "news", 0, 4),
		},
		Batches: []api.Batch{
			{Id: 4, User: "bob", Category: "news", Events: []int64{6, 9, 14}, Close: noon + 30},
			{Id: 5, User: "cid", Category: "news", Events: []int64{10}, Close: noon + 1},
		},
		Flows: []api.Flow{
			flowOf(1, "ann", "news", api.FlowOut, 5, noon+20, 2, 4),
			flowOf(2, "bob", "news", api.FlowAcked, 1, noon-9, 3),
			flowOf(3, "ann", "alarm", api.FlowHeld, 0, noon+1000, 5),
			flowOf(4, "cid", "sport", api.FlowDone, 6, noon, 7),
			flowOf(6, "cid", "sport", api.FlowPaused, 2, noon+1, 8),
			flowOf(7, "ann", "alarm", api.FlowOff, 0, noon-3, 11),
			flowOf(9, "bob", "alarm", api.FlowFailed, 3, noon-1, 13),
		},
		Timers: []api.Timer{
			{Due: noon + 1, Seq: 12, Kind: 2, Ref: 5},
			{Due: noon + 20, Seq: 4, Kind: 1, Ref: 1},
			{Due: noon + 1, Seq: 30, Kind: 1, Ref: 6},
			{Due: noon + 1000, Seq: 29, Kind: 1, Ref: 3},
			{Due: noon + 30, Seq: 1, Kind: 2, Ref: 4},
		},
	}
}

// with is the sample, of which some things are others.
func with(change func(s *api.State)) api.State {
	s := sample()
	change(&s)
	return s
}

// timed is s with the timers of what is open, and numbers for them.
func timed(s api.State) api.State {
	s.Timers = nil
	for _, f := range s.Flows {
		if f.Phase >= api.FlowHeld && f.Phase <= api.FlowPaused {
			s.Timers = append(s.Timers, api.Timer{Due: f.At, Kind: 1, Ref: f.Id})
		}
	}
	for _, b := range s.Batches {
		s.Timers = append(s.Timers, api.Timer{Due: b.Close, Kind: 2, Ref: b.Id})
	}
	for i := range s.Timers {
		s.Timers[i].Seq = int64(len(s.Timers) - i)
	}
	s.Timers, _ = heap.Make(s.Timers...)
	return s
}

// crowd is a state of as many users and categories as there may be, and of so many events, each of another pair: in a batch, or in a flow.
func crowd(events int, batches bool) api.State {
	s := api.State{Now: noon, Event: maxCount, Flow: maxCount, Batch: maxCount, Message: maxCount, Seq: maxCount}
	for i := range 256 {
		s.Users = append(s.Users, api.User{Name: fmt.Sprintf("u%03d", i)})
	}
	for i := range 64 {
		s.Categories = append(s.Categories, category(fmt.Sprintf("c%02d", i)))
	}
	for i := range events {
		id, user, name := maxCount-2000+int64(i), s.Users[i%256].Name, s.Categories[i/256].Name
		if batches {
			s.Events = append(s.Events, api.Event{Id: id, User: user, Category: name, At: noon, Data: num(0), Batch: id})
			s.Batches = append(s.Batches, api.Batch{Id: id, User: user, Category: name, Events: []int64{id}, Close: maxTime})
		} else {
			s.Events = append(s.Events, api.Event{Id: id, User: user, Category: name, At: minTime, Data: num(0), Flow: id})
			s.Flows = append(s.Flows, flowOf(id, user, name, api.FlowHeld, 0, maxTime, id))
		}
	}
	return timed(s)
}

// ofOne is a state of one event, with each number as great, or as small, as it may be.
func ofOne(id, now, at int64, phase api.FlowPhase) api.State {
	s := api.State{
		Now: now, Event: id, Flow: id, Message: id, Seq: 1,
		Users:      []api.User{{Name: "ann"}},
		Categories: []api.Category{category("news")},
		Events:     []api.Event{{Id: id, User: "ann", Category: "news", At: minTime, Data: num(0), Flow: id}},
		Flows:      []api.Flow{flowOf(id, "ann", "news", phase, id, at, id)},
	}
	return timed(s)
}

// rights are right states, each edge among them.
func rights() map[string]api.State {
	all := map[string]api.State{
		"nothing":              {},
		"nothing at the first": {Now: minTime},
		"nothing at the last":  {Now: maxTime},
		"numbers given":        {Event: maxCount, Flow: maxCount, Batch: maxCount, Message: maxCount, Seq: maxCount},
		"one number given":     {Event: 1, Flow: 1, Batch: 1, Message: 1, Seq: 1},
		"sample":               sample(),
		"1024 batches":         crowd(1024, true),
		"1024 flows":           crowd(1024, false),
		"the greatest, out":    ofOne(maxCount, maxTime-1, maxTime, api.FlowOut),
		"the greatest, done":   ofOne(maxCount, maxTime, maxTime, api.FlowDone),
		"the smallest, done":   ofOne(1, minTime, minTime, api.FlowDone),
		"the smallest, out":    ofOne(1, minTime, minTime+1, api.FlowPaused),
		"empty lists":          {Users: []api.User{}, Categories: []api.Category{}, Events: []api.Event{}, Batches: []api.Batch{}, Flows: []api.Flow{}, Timers: []api.Timer{}},
	}
	// One flow has two of the events.
	full := crowd(1023, false)
	full.Events = append(full.Events, full.Events[1022])
	full.Events[1023].Id++
	full.Flows[1022].Events = []int64{full.Events[1022].Id, full.Events[1023].Id}
	all["1024 events in 1023 flows"] = full
	all["users alone"] = api.State{Users: sample().Users}
	all["categories alone"] = api.State{Categories: sample().Categories}
	all["all events at the first"] = with(func(s *api.State) {
		for i := range s.Events {
			s.Events[i].At = minTime
		}
	})
	all["all events now, and one time twice"] = with(func(s *api.State) {
		for i := range s.Events {
			s.Events[i].At = noon
		}
	})
	all["one message twice"] = with(func(s *api.State) { s.Flows[4].Message = 5 })
	all["the last numbers"] = with(func(s *api.State) { s.Event, s.Flow, s.Batch, s.Message, s.Seq = 14, 9, 5, 6, 30 })
	all["another heap"] = with(func(s *api.State) {
		s.Timers, _ = heap.Sorted(s.Timers)
	})
	all["two flows of one owner that wait"] = with(func(s *api.State) { s.Flows[5].Phase, s.Flows[5].At = api.FlowHeld, noon+5; *s = timed(*s) })
	all["a flow beside the batch"] = with(func(s *api.State) { s.Flows[1].Phase, s.Flows[1].At = api.FlowOut, noon+5; *s = timed(*s) })
	all["a list as data"] = with(func(s *api.State) {
		s.Events[3].Data = api.Value{Kind: api.ValueMap, Names: []string{"a", "b"}, Items: []api.Value{{Kind: api.ValueText, Text: "x"}, {Kind: api.ValueList, Items: []api.Value{num(1)}}}}
	})
	return all
}

// told is something as a text; nil and empty lists are told alike.
func told(of ...any) string {
	return fmt.Sprintf("%+v", of)
}

func TestCheckTellsWhatIsRight(t *testing.T) { // 23.1
	for name, s := range rights() {
		if err := state.Check(s); err != api.OK {
			t.Errorf("%s: Check is %d", name, err)
		}
		if !isRight(s) {
			t.Errorf("%s: the model tells that it is not right", name)
		}
	}
}

func TestMakeTellsAStateOfNothing(t *testing.T) { // 23.1
	for _, now := range []int64{minTime, minTime + 1, -1, 0, 1, noon, maxTime - 1, maxTime} {
		want := api.State{Now: now}
		if s, err := state.Make(now); told(s) != told(want) || err != api.OK || state.Check(s) != api.OK {
			t.Errorf("Make(%d) is %+v, %d", now, s, err)
		}
	}
	for _, now := range []int64{minTime - 1, maxTime + 1, math.MinInt64, math.MaxInt64} {
		if s, err := state.Make(now); told(s) != told(api.State{}) || err != api.ErrRange {
			t.Errorf("Make(%d) is %+v, %d, not ErrRange", now, s, err)
		}
	}
}

// asked are numbers of which there may be something, and those beside them.
func asked(s api.State) []int64 {
	all := []int64{0, -1, 1, maxCount, maxCount + 1, math.MinInt64, math.MaxInt64}
	for _, e := range s.Events {
		all = append(all, e.Id-1, e.Id, e.Id+1, e.Flow, e.Batch)
	}
	return all[:min(len(all), 70)]
}

func TestEventFlowAndWhereTellWhatThereIs(t *testing.T) { // 23.2
	for name, s := range rights() {
		for _, id := range asked(s) {
			var wantEvent api.Event
			var wantFlow api.Flow
			noEvent, noFlow, phase := api.ErrNone, api.ErrNone, api.FlowNone
			for _, f := range s.Flows {
				if f.Id == id {
					wantFlow, noFlow = f, api.OK
				}
				if slices.Contains(f.Events, id) {
					phase = f.Phase
				}
			}
			for _, e := range s.Events {
				if e.Id == id {
					wantEvent, noEvent = e, api.OK
				}
			}
			if e, err := state.Event(s, id); told(e) != told(wantEvent) || err != noEvent {
				t.Errorf("%s: Event %d is %+v, %d, not %+v", name, id, e, err, wantEvent)
			}
			if f, err := state.Flow(s, id); told(f) != told(wantFlow) || err != noFlow {
				t.Errorf("%s: Flow %d is %+v, %d, not %+v", name, id, f, err, wantFlow)
			}
			if p, err := state.Where(s, id); p != phase || err != noEvent {
				t.Errorf("%s: Where of %d is %d, %d, not %d", name, id, p, err, phase)
			}
		}
	}
}

func TestWhereTellsEachPhase(t *testing.T) { // 23.2
	want := map[int64]api.FlowPhase{2: 2, 3: 4, 4: 2, 5: 1, 6: 0, 7: 5, 8: 3, 9: 0, 10: 0, 11: 6, 13: 7, 14: 0}
	for id, phase := range want {
		if p, err := state.Where(sample(), id); p != phase || err != api.OK {
			t.Errorf("Where of %d is %d, %d, not %d", id, p, err, phase)
		}
	}
}

func TestOpenTellsWhatIsOpen(t *testing.T) { // 23.2
	want := []int64{2, 4, 5, 6, 8, 9, 10, 14}
	if l, err := state.Open(sample()); !slices.Equal(l, want) || err != api.OK {
		t.Errorf("Open is %v, %d, not %v", l, err, want)
	}
	for name, s := range rights() {
		var want []int64
		left, _ := pruned(s)
		for _, e := range left.Events {
			want = append(want, e.Id)
		}
		if l, err := state.Open(s); !slices.Equal(l, want) || err != api.OK {
			t.Errorf("%s: Open is %v, %d, not %v", name, l, err, want)
		}
	}
}

// pruned is s without what has ended, and how many events that are, told otherwise than Prune does.
func pruned(s api.State) (api.State, int) {
	gone := map[int64]bool{}
	var flows []api.Flow
	for _, f := range s.Flows {
		if f.Phase > api.FlowPaused {
			gone[f.Id] = true
		} else {
			flows = append(flows, f)
		}
	}
	var events []api.Event
	for _, e := range s.Events {
		if !gone[e.Flow] {
			events = append(events, e)
		}
	}
	many := len(s.Events) - len(events)
	s.Events, s.Flows = events, flows
	return s, many
}

func TestPruneForgetsWhatHasEnded(t *testing.T) { // 23.2, 23.5
	for name, s := range rights() {
		want, many := pruned(s)
		left, n, err := state.Prune(s)
		// How the heap is laid out, nobody is told.
		left.Timers, want.Timers = inOrder(left.Timers), inOrder(want.Timers)
		if told(left) != told(want) || n != many || err != api.OK {
			t.Errorf("%s: Prune is %+v, %d, %d, not %+v, %d", name, left, n, err, want, many)
		}
	}
	left, n, err := state.Prune(sample())
	if n != 4 || err != api.OK || len(left.Flows) != 3 || len(left.Batches) != 2 || len(left.Timers) != 5 {
		t.Errorf("Prune is %+v, %d, %d", left, n, err)
	}
}

// inOrder are the heap's timers in order.
func inOrder(h []api.Timer) []api.Timer {
	l, _ := heap.Sorted(h)
	return l
}

// follows fails, if something is not so that follows from what a right state is.
func follows(t *testing.T, s api.State) {
	t.Helper()
	open, _ := state.Open(s)
	if len(open) == 0 && len(s.Timers) > 0 {
		t.Fatalf("nothing is open in %+v", s)
	}
	for _, e := range s.Events {
		places := 0
		for _, b := range s.Batches {
			if slices.Contains(b.Events, e.Id) {
				places++
			}
		}
		for _, f := range s.Flows {
			if slices.Contains(f.Events, e.Id) {
				places++
			}
		}
		if places != 1 {
			t.Fatalf("the event %d is in %d places of %+v", e.Id, places, s)
		}
	}
	left, n, err := state.Prune(s)
	if err != api.OK || state.Check(left) != api.OK || n != len(s.Events)-len(open) {
		t.Fatalf("Prune of %+v is %+v, %d, %d", s, left, n, err)
	}
	still, _ := state.Open(left)
	if len(left.Events) != len(open) || !slices.Equal(open, still) {
		t.Fatalf("open are %v, and behind Prune %v of %+v", open, still, left.Events)
	}
	for _, id := range open {
		ahead, _ := state.Where(s, id)
		behind, err := state.Where(left, id)
		one, _ := state.Event(s, id)
		other, _ := state.Event(left, id)
		if ahead != behind || err != api.OK || told(one) != told(other) {
			t.Fatalf("%d was in phase %d, and is in %d: %+v, %+v", id, ahead, behind, one, other)
		}
	}
	if again, n, err := state.Prune(left); told(again) != told(left) || n != 0 || err != api.OK {
		t.Fatalf("Prune again is %+v, %d, %d, not %+v", again, n, err, left)
	}
}

func TestWhatFollows(t *testing.T) { // 23.4, 23.5
	for _, s := range rights() {
		if len(s.Events) < 100 {
			follows(t, s)
		}
	}
	left, n, err := state.Prune(crowd(1024, false))
	if len(left.Events) != 1024 || n != 0 || err != api.OK {
		t.Errorf("Prune has %d events, %d, %d", len(left.Events), n, err)
	}
}

func TestTheOthersTellThatItIsNotRight(t *testing.T) { // 23.1
	for name, s := range wrongs() {
		for _, id := range []int64{1, 2, 5, 6, 99} {
			e, noEvent := state.Event(s, id)
			f, noFlow := state.Flow(s, id)
			p, noPlace := state.Where(s, id)
			if told(e, f, p) != told(api.Event{}, api.Flow{}, api.FlowNone) || noEvent != api.ErrForm || noFlow != api.ErrForm || noPlace != api.ErrForm {
				t.Fatalf("%s: %d is %+v, %+v, %d, %d, %d, %d, not ErrForm", name, id, e, f, p, noEvent, noFlow, noPlace)
			}
		}
		l, notOpen := state.Open(s)
		left, n, notPruned := state.Prune(s)
		if len(l) != 0 || notOpen != api.ErrForm || told(left) != told(api.State{}) || n != 0 || notPruned != api.ErrForm {
			t.Fatalf("%s: Open is %v, %d, and Prune %+v, %d, %d, not ErrForm", name, l, notOpen, left, n, notPruned)
		}
	}
}

func TestCheckRefuses(t *testing.T) { // 23.1
	for name, s := range wrongs() {
		if err := state.Check(s); err != api.ErrForm {
			t.Errorf("%s: Check is %d, not ErrForm", name, err)
		}
		if len(s.Events) < 100 && len(s.Flows) < 100 && isRight(s) {
			t.Errorf("%s: the model tells that it is right", name)
		}
	}
}

// noNames are texts that are no names.
var noNames = []string{"", "Ann", "a b", "1a", strings.Repeat("a", 33)}
