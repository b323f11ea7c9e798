package state

import (
	"cmp"
	"slices"
	"strings"

	"bellman/api"
	"bellman/batch"
	"bellman/chain"
	"bellman/flow"
	"bellman/fresh"
	"bellman/heap"
	"bellman/pref"
	"bellman/rising"
	"bellman/value"
)

// look is a state that is looked at: which events are where, in order, and how far each flow is.
type look struct {
	api.State
	at     map[place][]api.Event
	phases map[int64]api.FlowPhase
}

// place is where an event is: the numbers that it has of a flow, and of a batch.
type place struct {
	flow  int64
	batch int64
}

// owner is whose an event is, and of which category.
type owner [2]string

// lookAt looks at s, if it is right.
func lookAt(s api.State) (look, api.Errno) {
	l := look{s, map[place][]api.Event{}, map[int64]api.FlowPhase{}}
	// An event is held against the users and categories, and all else against the events.
	if !l.numbersRight() || pref.All(s.Users) != api.OK || chain.All(s.Categories) != api.OK || l.events().All(s.Events) != api.OK {
		return look{}, api.ErrForm
	}
	l.sort()
	if !l.batchesRight() || l.flows().All(s.Flows) != api.OK || !l.allPlaced() || !l.timersRight() {
		return look{}, api.ErrForm
	}
	return l, api.OK
}

// sort sorts the events by place, and notes how far the flows are.
func (l look) sort() {
	for _, e := range l.Events {
		at := place{e.Flow, e.Batch}
		l.at[at] = append(l.at[at], e)
	}
	for _, f := range l.Flows {
		l.phases[f.Id] = f.Phase
	}
}

// event is the one of that Id.
func (l look) event(id int64) (api.Event, api.Errno) {
	return l.events().Find(l.Events, api.Event{Id: id})
}

// flow is the one of that Id.
func (l look) flow(id int64) (api.Flow, api.Errno) {
	return l.flows().Find(l.Flows, api.Flow{Id: id})
}

// isOpen tells whether e is in a batch, or its flow waits.
func (l look) isOpen(e api.Event) bool {
	return e.Batch > 0 || waits(l.phases[e.Flow])
}

// numbersRight tells whether the time and the last numbers are what they may be.
func (l look) numbersRight() bool {
	for _, n := range []int64{l.Event, l.Flow, l.Batch, l.Message, l.Seq} {
		if n < 0 || n > api.MaxCount {
			return false
		}
	}
	return isTime(l.Now)
}

// events are the lists of events that there may be, wherever they are.
func (l look) events() rising.Kind[api.Event] {
	return rising.Kind[api.Event]{
		Most:  api.MaxEvents,
		Check: l.checkEvent,
		Order: func(a, b api.Event) int { return cmp.Compare(a.Id, b.Id) },
		Copy:  fresh.Event,
	}
}

// flows are the lists of flows that there may be.
func (l look) flows() rising.Kind[api.Flow] {
	return rising.Kind[api.Flow]{
		// Each has an event that no other one has.
		Most:  api.MaxEvents,
		Check: l.checkFlow,
		Order: func(a, b api.Flow) int { return cmp.Compare(a.Id, b.Id) },
		Copy:  fresh.Flow,
	}
}

// checkEvent tells whether e is right, wherever it is.
func (l look) checkEvent(e api.Event) api.Errno {
	idRight := e.Id >= 1 && e.Id <= l.Event
	timeRight := e.At >= api.MinTime && e.At <= l.Now
	if !idRight || !timeRight || !l.isThere(owner{e.User, e.Category}) {
		return api.ErrForm
	}
	return value.Check(e.Data)
}

// isThere tells whether there are the user and the category.
func (l look) isThere(o owner) bool {
	_, user := slices.BinarySearchFunc(l.Users, o[0], func(u api.User, name string) int { return strings.Compare(u.Name, name) })
	_, category := slices.BinarySearchFunc(l.Categories, o[1], func(c api.Category, name string) int { return strings.Compare(c.Name, name) })
	return user && category
}

// batchesRight tells whether the batches are.
func (l look) batchesRight() bool {
	wrong := func(b api.Batch) bool {
		return b.Id > l.Batch || b.Close <= l.Now || !l.holds(place{batch: b.Id}, owner{b.User, b.Category}, b.Events)
	}
	return batch.All(l.Batches) == api.OK && !slices.ContainsFunc(l.Batches, wrong)
}

// checkFlow tells whether f is right.
func (l look) checkFlow(f api.Flow) api.Errno {
	ended, err := flow.Ended(f)
	timeRight := waits(f.Phase) && f.At > l.Now || ended && f.At <= l.Now
	messageRight := f.Message <= l.Message && (f.Message > 0) == (f.Rank > 0)
	if err != api.OK || f.Id > l.Flow || !timeRight || !messageRight || !l.holds(place{flow: f.Id}, owner{f.User, f.Category}, f.Events) {
		return api.ErrForm
	}
	return api.OK
}

// holds tells whether just those events are at the place, and all are that owner's.
func (l look) holds(at place, of owner, events []int64) bool {
	return slices.EqualFunc(l.at[at], events, func(e api.Event, id int64) bool {
		return e.Id == id && owner{e.User, e.Category} == of
	})
}

// allPlaced tells whether each event is in a batch, or a flow, that there is. These are right: each is a place of its own, and has events.
func (l look) allPlaced() bool {
	return len(l.at) == len(l.Batches)+len(l.Flows)
}

// timersRight tells whether the timers are, and just those of what is open.
func (l look) timersRight() bool {
	if heap.Check(l.Timers) != api.OK {
		return false
	}
	have := slices.Clone(l.Timers)
	for i, t := range have {
		if t.Seq < 1 || t.Seq > l.Seq {
			return false
		}
		// By which of its numbers a timer comes is all one.
		have[i].Seq = 0
	}
	slices.SortFunc(have, compareTimers)
	return slices.Equal(have, l.awaited())
}

// awaited are the timers of what is open, without numbers of their own, in the order of what they are of.
func (l look) awaited() []api.Timer {
	var all []api.Timer
	for _, f := range kept(l.Flows, func(f api.Flow) bool { return waits(f.Phase) }) {
		all = append(all, api.Timer{Due: f.At, Kind: api.TimerFlow, Ref: f.Id})
	}
	for _, b := range l.Batches {
		all = append(all, api.Timer{Due: b.Close, Kind: api.TimerBatch, Ref: b.Id})
	}
	return all
}

// compareTimers is below 0, if a is of what stands ahead of b's, and above 0, if it stands behind.
func compareTimers(a, b api.Timer) int {
	return cmp.Or(cmp.Compare(a.Kind, b.Kind), cmp.Compare(a.Ref, b.Ref))
}

// waits tells whether a flow does, in that phase.
func waits(p api.FlowPhase) bool {
	return p == api.FlowHeld || p == api.FlowOut || p == api.FlowPaused
}

// isTime tells whether t is one.
func isTime(t int64) bool {
	return t >= api.MinTime && t <= api.MaxTime
}
