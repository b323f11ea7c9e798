package state_test

import (
	"fmt"
	"math"
	"slices"

	"bellman/api"
	"bellman/batch"
	"bellman/chain"
	"bellman/flow"
	"bellman/heap"
	"bellman/pref"
	"bellman/value"
)

// isRight tells whether s is right, in other words than the package: it counts.
func isRight(s api.State) bool {
	for _, n := range []int64{s.Event, s.Flow, s.Batch, s.Message, s.Seq} {
		if n < 0 || n > maxCount {
			return false
		}
	}
	if s.Now < minTime || s.Now > maxTime || pref.All(s.Users) != api.OK || chain.All(s.Categories) != api.OK || len(s.Events) > 1024 {
		return false
	}
	if batch.All(s.Batches) != api.OK || heap.Check(s.Timers) != api.OK {
		return false
	}
	for i, e := range s.Events {
		if !eventIsRight(s, i, e) {
			return false
		}
	}
	for i, f := range s.Flows {
		if i > 0 && s.Flows[i-1].Id >= f.Id || !flowIsRight(s, f) {
			return false
		}
	}
	for _, b := range s.Batches {
		has := func(e api.Event) bool { return e.Batch == b.Id }
		if b.Id > s.Batch || b.Close <= s.Now || timers(s, 2, b.Id, b.Close) != 1 || !sameEvents(s, has, b.User, b.Category, b.Events) {
			return false
		}
	}
	return timersAreRight(s)
}

// eventIsRight tells whether the event at that place is right.
func eventIsRight(s api.State, i int, e api.Event) bool {
	_, noUser := pref.Find(s.Users, e.User)
	_, noCategory := chain.Find(s.Categories, e.Category)
	places := 0
	for _, b := range s.Batches {
		if b.Id == e.Batch {
			places++
		}
	}
	for _, f := range s.Flows {
		if f.Id == e.Flow {
			places++
		}
	}
	if i > 0 && s.Events[i-1].Id >= e.Id || e.Id < 1 || e.Id > s.Event || noUser != api.OK || noCategory != api.OK {
		return false
	}
	one := e.Flow == 0 && e.Batch != 0 || e.Flow != 0 && e.Batch == 0
	return e.At >= minTime && e.At <= s.Now && value.Check(e.Data) == api.OK && one && places == 1
}

// flowIsRight tells whether f is right.
func flowIsRight(s api.State, f api.Flow) bool {
	if flow.Check(f) != api.OK || f.Id > s.Flow || f.Message > s.Message || f.Message > 0 && f.Rank == 0 || f.Message == 0 && f.Rank > 0 {
		return false
	}
	switch f.Phase {
	case api.FlowHeld, api.FlowOut, api.FlowPaused:
		if f.At <= s.Now || timers(s, 1, f.Id, f.At) != 1 {
			return false
		}
	case api.FlowAcked, api.FlowDone, api.FlowOff, api.FlowFailed:
		if f.At > s.Now {
			return false
		}
	default:
		return false
	}
	return sameEvents(s, func(e api.Event) bool { return e.Flow == f.Id }, f.User, f.Category, f.Events)
}

// sameEvents tells whether just those that is tells are the events, and of that user and category.
func sameEvents(s api.State, is func(api.Event) bool, user, category string, events []int64) bool {
	var ids []int64
	for _, e := range s.Events {
		if !is(e) {
			continue
		}
		ids = append(ids, e.Id)
		if e.User != user || e.Category != category {
			return false
		}
	}
	return slices.Equal(ids, events)
}

// timers are how many there are of that kind, of that thing, and of that time.
func timers(s api.State, kind uint8, ref, due int64) int {
	many := 0
	for _, t := range s.Timers {
		if t.Kind == kind && t.Ref == ref && t.Due == due {
			many++
		}
	}
	return many
}

// timersAreRight tells whether each timer is of something that is open, if none of these lacks one.
func timersAreRight(s api.State) bool {
	open := len(s.Batches)
	for _, f := range s.Flows {
		if f.Phase <= api.FlowPaused {
			open++
		}
	}
	for _, t := range s.Timers {
		if t.Seq < 1 || t.Seq > s.Seq {
			return false
		}
	}
	return len(s.Timers) == open
}

// within is a list that has itself within.
func within() api.Value {
	v := api.Value{Kind: api.ValueList, Items: make([]api.Value, 2)}
	v.Items[0], v.Items[1] = v, v
	return v
}

// wrongs are states that are not right, each by one thing.
func wrongs() map[string]api.State {
	all := map[string]api.State{
		"257 users":       with(func(s *api.State) { s.Users = crowd(0, true).Users; s.Users = append(s.Users, api.User{Name: "x"}) }),
		"users fall":      with(func(s *api.State) { s.Users[0], s.Users[1] = s.Users[1], s.Users[0] }),
		"a user twice":    with(func(s *api.State) { s.Users = append(s.Users, s.Users[2]) }),
		"a wrong user":    with(func(s *api.State) { s.Users[1].Version = -1 }),
		"65 categories":   with(func(s *api.State) { s.Categories = append(crowd(0, true).Categories, category("x")) }),
		"categories fall": with(func(s *api.State) { s.Categories[0], s.Categories[1] = s.Categories[1], s.Categories[0] }),
		"category twice":  with(func(s *api.State) { s.Categories = append(s.Categories, s.Categories[2]) }),
		"wrong category":  with(func(s *api.State) { s.Categories[1].Source = "{{other}}" }),
		"1025 batches":    crowd(1025, true),
		"1025 flows":      crowd(1025, false),
	}
	for i, now := range []int64{minTime - 1, maxTime + 1, math.MinInt64, math.MaxInt64} {
		all[fmt.Sprint("no time ", i)] = api.State{Now: now}
	}
	for i, n := range []int64{-1, -maxCount, math.MinInt64, maxCount + 1, math.MaxInt64} {
		all[fmt.Sprint("event number ", i)] = api.State{Event: n}
		all[fmt.Sprint("flow number ", i)] = api.State{Flow: n}
		all[fmt.Sprint("batch number ", i)] = api.State{Batch: n}
		all[fmt.Sprint("message number ", i)] = api.State{Message: n}
		all[fmt.Sprint("seq number ", i)] = api.State{Seq: n}
	}
	more := crowd(1024, false)
	last := maxCount - 2000 + 1024
	more.Events = append(more.Events, more.Events[1023])
	more.Events[1024].Id, more.Flows[1023].Events = last, []int64{last - 1, last}
	all["1025 events in 1024 flows"] = more
	wrongEvents(all)
	wrongBatches(all)
	wrongFlows(all)
	wrongTimers(all)
	return all
}

// wrongEvents puts states in, in which something is wrong with an event.
func wrongEvents(all map[string]api.State) {
	put := func(name string, change func(s *api.State)) { all["event: "+name] = with(change) }
	put("none of them", func(s *api.State) { s.Events = nil })
	put("one less", func(s *api.State) { s.Events = s.Events[1:] })
	put("the last one less", func(s *api.State) { s.Events = s.Events[:11] })
	put("one more in a flow", func(s *api.State) { s.Events = append(s.Events, event(15, "ann", "news", 1, 0)) })
	put("one more in a batch", func(s *api.State) { s.Events = append(s.Events, event(15, "bob", "news", 0, 4)) })
	put("one more, another one's, in a flow", func(s *api.State) { s.Events = append(s.Events, event(15, "bob", "news", 1, 0)) })
	put("one more, another one's, in a batch", func(s *api.State) { s.Events = append(s.Events, event(15, "ann", "news", 0, 4)) })
	put("one more nowhere", func(s *api.State) { s.Events = append(s.Events, event(15, "ann", "news", 0, 0)) })
	put("one more in both", func(s *api.State) { s.Events = append(s.Events, event(15, "bob", "news", 1, 4)) })
	put("in both", func(s *api.State) { s.Events[0].Batch = 4 })
	put("in both, the batch ahead", func(s *api.State) { s.Events[4].Flow = 1 })
	put("nowhere", func(s *api.State) { s.Events[0].Flow = 0 })
	put("in no such flow", func(s *api.State) { s.Events = append(s.Events, event(15, "ann", "news", 5, 0)) })
	put("in no such batch", func(s *api.State) { s.Events = append(s.Events, event(15, "ann", "news", 0, 1)) })
	put("in a flow below 0", func(s *api.State) { s.Events = append(s.Events, event(15, "ann", "news", -1, 0)) })
	put("in a batch below 0", func(s *api.State) { s.Events = append(s.Events, event(15, "ann", "news", 0, -1)) })
	put("in a batch below 0, and a flow", func(s *api.State) { s.Events[0].Batch = -1 })
	put("in another flow", func(s *api.State) { s.Events[5].Flow, s.Events[6].Flow = 6, 4 })
	put("twice", func(s *api.State) { s.Events[2].Id = 3 })
	put("falling", func(s *api.State) { s.Events[1], s.Events[2] = s.Events[2], s.Events[1] })
	put("0", func(s *api.State) { s.Events[0].Id = 0; s.Flows[0].Events[0] = 0 })
	put("behind the last number", func(s *api.State) { s.Event = 13 })
	put("no user", func(s *api.State) { s.Users = s.Users[:2] })
	put("no category", func(s *api.State) { s.Categories = s.Categories[:2] })
	put("ahead of time", func(s *api.State) { s.Events[3].At = minTime - 1 })
	put("yet to come", func(s *api.State) { s.Events[3].At = noon + 1 })
	put("with itself within", func(s *api.State) { s.Events[3].Data = within() })
	put("without data", func(s *api.State) { s.Events[3].Data = api.Value{} })
	put("with wrong data", func(s *api.State) { s.Events[11].Data.Text = "x" })
	for i, name := range noNames {
		put(fmt.Sprint("no user ", i), func(s *api.State) { s.Events[1].User, s.Flows[1].User = name, name })
		put(fmt.Sprint("no category ", i), func(s *api.State) { s.Events[1].Category, s.Flows[1].Category = name, name })
	}
	put("of a user that is not there", func(s *api.State) { s.Events[1].User, s.Flows[1].User = "dan", "dan" })
	put("of a category that is not there", func(s *api.State) { s.Events[1].Category, s.Flows[1].Category = "other", "other" })
}

// wrongBatches puts states in, in which something is wrong with a batch.
func wrongBatches(all map[string]api.State) {
	put := func(name string, change func(s *api.State)) { all["batch: "+name] = with(change) }
	put("none of them", func(s *api.State) { s.Batches = nil })
	put("one less", func(s *api.State) { s.Batches = s.Batches[:1] })
	put("behind the last number", func(s *api.State) { s.Batch = 4 })
	put("falling", func(s *api.State) { s.Batches[0], s.Batches[1] = s.Batches[1], s.Batches[0] })
	put("closes now", func(s *api.State) { s.Batches[1].Close = noon; *s = timed(*s) })
	put("closed", func(s *api.State) { s.Batches[1].Close = noon - 1; *s = timed(*s) })
	put("closes behind all times", func(s *api.State) { s.Batches[1].Close = maxTime + 1; *s = timed(*s) })
	put("of another user", func(s *api.State) { s.Batches[1].User = "ann" })
	put("of another category", func(s *api.State) { s.Batches[1].Category = "sport" })
	put("of names that are the other's", func(s *api.State) { s.Batches[1].User, s.Batches[1].Category = "news", "cid" })
	put("with one of another user", func(s *api.State) { s.Events[7].User = "ann" })
	put("with one of another category", func(s *api.State) { s.Events[7].Category = "alarm" })
	put("without events", func(s *api.State) { s.Batches[1].Events = nil })
	put("one event less", func(s *api.State) { s.Batches[0].Events = []int64{6, 9} })
	put("another event", func(s *api.State) { s.Batches[0].Events = []int64{6, 8, 14} })
	put("an event of a flow", func(s *api.State) { s.Batches[1].Events = []int64{8, 10} })
	put("an event that is not there", func(s *api.State) { s.Batches[1].Events = []int64{10, 12} })
	put("without one", func(s *api.State) {
		s.Batches = append(s.Batches[:1:1], api.Batch{Id: 3, User: "ann", Category: "sport", Events: []int64{1}, Close: noon + 9})
	})
	put("two of one owner", func(s *api.State) {
		s.Events = append(s.Events, event(15, "bob", "news", 0, 5))
		s.Batches[1] = api.Batch{Id: 5, User: "bob", Category: "news", Events: []int64{15}, Close: noon + 1}
		s.Events = slices.Delete(s.Events, 8, 9)
	})
}

// wrongFlows puts states in, in which something is wrong with a flow.
func wrongFlows(all map[string]api.State) {
	put := func(name string, change func(s *api.State)) { all["flow: "+name] = with(change) }
	put("none of them", func(s *api.State) { s.Flows = nil })
	put("one less", func(s *api.State) { s.Flows = s.Flows[:6] })
	put("falling", func(s *api.State) { s.Flows[1], s.Flows[3] = s.Flows[3], s.Flows[1] })
	put("twice", func(s *api.State) { s.Flows = append(s.Flows, s.Flows[6]) })
	put("0", func(s *api.State) {
		s.Flows[0].Id, s.Events[0].Flow, s.Events[2].Flow = 0, 0, 0
		*s = timed(*s)
	})
	put("behind the last number", func(s *api.State) { s.Flow = 8 })
	put("not begun", func(s *api.State) { s.Flows[3].Phase = api.FlowNone })
	put("not begun, yet to come", func(s *api.State) { s.Flows[3].Phase, s.Flows[3].At = api.FlowNone, noon+5 })
	put("no phase", func(s *api.State) { s.Flows[3].Phase = 8 })
	put("ended later", func(s *api.State) { s.Flows[3].At = noon + 1 })
	put("ended ahead of all times", func(s *api.State) { s.Flows[3].At = minTime - 1 })
	put("waits behind all times", func(s *api.State) { s.Flows[2].At = maxTime + 1; *s = timed(*s) })
	for i, at := range []int64{0, 2, 4} {
		put(fmt.Sprint("waits for now ", i), func(s *api.State) { s.Flows[at].At = noon; *s = timed(*s) })
		put(fmt.Sprint("waits for what is gone ", i), func(s *api.State) { s.Flows[at].At = noon - 1; *s = timed(*s) })
	}
	put("message behind the last number", func(s *api.State) { s.Message = 5 })
	put("message below 0", func(s *api.State) { s.Flows[5].Message = -1 })
	put("message without rank", func(s *api.State) { s.Flows[5].Message = 1 })
	put("rank without message", func(s *api.State) { s.Flows[5].Rank = 1 })
	put("rank, and no message more", func(s *api.State) { s.Flows[3].Message = 0 })
	put("too many tries", func(s *api.State) { s.Flows[3].Tries = 6 })
	put("of another user", func(s *api.State) { s.Flows[3].User = "ann" })
	put("of another category", func(s *api.State) { s.Flows[3].Category = "news" })
	put("with one of another user", func(s *api.State) { s.Events[2].User = "bob" })
	put("with one of another category", func(s *api.State) { s.Events[2].Category = "alarm" })
	put("without events", func(s *api.State) { s.Flows[3].Events = nil })
	put("one event less", func(s *api.State) { s.Flows[0].Events = []int64{2} })
	put("one event less ahead", func(s *api.State) { s.Flows[0].Events = []int64{4} })
	put("an event of a batch", func(s *api.State) { s.Flows[0].Events = []int64{2, 4, 6} })
	put("an event that is not there", func(s *api.State) { s.Flows[0].Events = []int64{1, 2, 4} })
	put("another event", func(s *api.State) { s.Flows[3].Events, s.Flows[4].Events = []int64{8}, []int64{7} })
	put("one without its events", func(s *api.State) {
		s.Flows[6] = flowOf(8, "ann", "sport", api.FlowDone, 1, noon, 1)
	})
	put("one more without events", func(s *api.State) {
		s.Flows = append(s.Flows, flowOf(10, "ann", "sport", api.FlowDone, 1, noon, 1))
		s.Flow = 10
	})
}

// wrongTimers puts states in, in which something is wrong with a timer.
func wrongTimers(all map[string]api.State) {
	put := func(name string, change func(s *api.State)) { all["timer: "+name] = with(change) }
	put("none of them", func(s *api.State) { s.Timers = nil })
	put("one less", func(s *api.State) { s.Timers = s.Timers[:4] })
	put("the last number", func(s *api.State) { s.Seq = 29 })
	put("0", func(s *api.State) { s.Timers[4].Seq = 0 })
	put("below 0", func(s *api.State) { s.Timers[3].Seq = -5 })
	put("one number twice", func(s *api.State) { s.Timers[3].Seq = 12 })
	put("no heap", func(s *api.State) { s.Timers[1], s.Timers[3] = s.Timers[3], s.Timers[1] })
	put("no heap by their numbers", func(s *api.State) { s.Timers[0], s.Timers[2] = s.Timers[2], s.Timers[0] })
	put("one twice", func(s *api.State) {
		s.Timers = append(s.Timers, api.Timer{Due: noon + 1000, Seq: 2, Kind: 1, Ref: 3})
	})
	put("one twice, one less", func(s *api.State) { s.Timers[4] = api.Timer{Due: noon + 1000, Seq: 1, Kind: 1, Ref: 3} })
	put("of nothing", func(s *api.State) {
		s.Timers = append(s.Timers, api.Timer{Due: noon + 2000, Seq: 2})
	})
	for i, at := range []int{3, 4} {
		put(fmt.Sprint("due later ", i), func(s *api.State) { s.Timers[at].Due++ })
		put(fmt.Sprint("due ahead ", i), func(s *api.State) { s.Timers[at].Due-- })
		put(fmt.Sprint("of no kind ", i), func(s *api.State) { s.Timers[at].Kind = 0 })
		put(fmt.Sprint("of a third kind ", i), func(s *api.State) { s.Timers[at].Kind = 3 })
		put(fmt.Sprint("of the other kind ", i), func(s *api.State) { s.Timers[at].Kind = 3 - s.Timers[at].Kind })
		put(fmt.Sprint("of another one ", i), func(s *api.State) { s.Timers[at].Ref++ })
	}
	put("of a flow that has ended", func(s *api.State) {
		s.Timers = append(s.Timers, api.Timer{Due: noon + 2000, Seq: 2, Kind: 1, Ref: 4})
	})
	put("of a flow that has ended, at its time", func(s *api.State) {
		s.Timers = append([]api.Timer{{Due: noon, Seq: 2, Kind: 1, Ref: 4}}, inOrder(s.Timers)...)
	})
	put("of a flow that is not there", func(s *api.State) {
		s.Timers = append(s.Timers, api.Timer{Due: noon + 2000, Seq: 2, Kind: 1, Ref: 5})
	})
	put("of a batch that is not there", func(s *api.State) {
		s.Timers = append(s.Timers, api.Timer{Due: noon + 2000, Seq: 2, Kind: 2, Ref: 1})
	})
	many := crowd(1024, false)
	for i := range int64(4096) {
		many.Timers = append(many.Timers, api.Timer{Due: maxTime, Seq: 5000 + i, Kind: 1, Ref: maxCount - 2000})
	}
	all["timer: 5120"] = many
}
