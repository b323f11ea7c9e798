package flow

import (
	"errors"

	"bellman/api"
	"bellman/chain"
	"bellman/fresh"
	"bellman/pref"
	"bellman/route"
)

// work is a flow at work: whose it is, how it is told, what the time is, and whether it is to be sent.
type work struct {
	api.Flow
	user     api.User
	category api.Category
	now      int64
	send     bool
}

// step changes a flow at work, or refuses to.
type step func(w *work) error

// refusal is why a step is not gone, and the error's number.
type refusal struct {
	why    string
	number api.Errno
}

// Error tells why.
func (r refusal) Error() string {
	return r.number.Error() + ": " + r.why
}

// Unwrap is the number within.
func (r refusal) Unwrap() error {
	return r.number
}

// number is the one within a refusal; OK, if there is none.
func number(err error) api.Errno {
	within := api.OK
	errors.As(err, &within)
	return within
}

// stepped is f behind the steps, one behind the other, and whether it is to be sent; with an error f as it was.
func stepped(f api.Flow, t int64, steps ...step) (api.Flow, bool, api.Errno) {
	if err := Check(f); err != api.OK {
		return api.Flow{}, false, err
	}
	w := work{Flow: fresh.Flow(f), now: t}
	for _, gone := range append(steps, right) {
		if err := gone(&w); err != nil {
			return fresh.Flow(f), false, number(err)
		}
	}
	return w.Flow, w.send, api.OK
}

// between is the step that tells a flow whose it is, and how it is told.
func between(u api.User, c api.Category) step {
	return func(w *work) error {
		switch {
		case pref.Check(u) != api.OK || chain.Check(c) != api.OK:
			return refusal{"its user or category is not right", api.ErrForm}
		case u.Name != w.User || c.Name != w.Category:
			return refusal{"it is another one's", api.ErrForm}
		case w.Level > len(c.Chain):
			return refusal{"there is no such level", api.ErrRange}
		}
		w.user, w.category = u, c
		return nil
	}
}

// inTime is the step that refuses what is no time.
func inTime(w *work) error {
	if !isTime(w.now) {
		return refusal{"there is no such time", api.ErrRange}
	}
	return nil
}

// open is the step that refuses what has ended.
func open(w *work) error {
	if ended(w.Phase) {
		return refusal{"it has ended", api.ErrState}
	}
	return nil
}

// right is the last step, which refuses what is not right behind the others: one made by hand may have been tried, or sent by levels, as often as may be.
func right(w *work) error {
	if Check(w.Flow) != api.OK {
		return refusal{"it would not be right", api.ErrRange}
	}
	return nil
}

// goOn goes on by the route from the flow's level on.
func (w *work) goOn() error {
	r, err := route.Decide(w.user, w.category, w.Level, w.now)
	switch {
	case err != api.OK:
		return refusal{"there is no route", err}
	case r.Kind == api.RouteEnd:
		w.leave()
		return nil
	case r.Level != w.Level:
		w.Level, w.Tries, w.Bad = r.Level, 0, false
	}
	if r.Kind == api.RouteHold {
		w.Phase, w.At = api.FlowHeld, r.At
		return nil
	}
	return w.tell()
}

// giveUp gives the level up, which was bad or not.
func (w *work) giveUp(bad bool) error {
	w.Bad = bad
	if w.Level >= len(w.category.Chain)-1 {
		w.leave()
		return nil
	}
	w.Level, w.Tries = w.Level+1, 0
	return w.goOn()
}

// tell has the flow sent by its level.
func (w *work) tell() error {
	w.send, w.Bad = true, false
	w.Tries++
	if w.Tries == 1 {
		w.Rank++
	}
	if wait := w.level().Wait; wait > 0 {
		return w.wait(api.FlowOut, wait)
	}
	w.end(api.FlowDone, false)
	return nil
}

// fail has the last try failed: there is another one, or the level is given up.
func (w *work) fail() error {
	l := w.level()
	if w.Tries >= l.Tries {
		return w.giveUp(true)
	}
	w.Bad = true
	return w.wait(api.FlowPaused, l.Pause)
}

// wait has the flow wait so many seconds.
func (w *work) wait(phase api.FlowPhase, seconds int64) error {
	if !isTime(w.now + seconds) {
		return refusal{"it would wait too long", api.ErrClock}
	}
	w.Phase, w.At = phase, w.now+seconds
	return nil
}

// leave ends what no level is left for.
func (w *work) leave() {
	phase := api.FlowDone
	switch {
	case w.Rank == 0:
		phase = api.FlowOff
	case w.Bad:
		phase = api.FlowFailed
	}
	w.end(phase, w.Bad)
}

// end ends the flow in that phase.
func (w *work) end(phase api.FlowPhase, bad bool) {
	w.Phase, w.At, w.Bad = phase, w.now, bad
}

// level is the one that the flow is at; behind the last one it has no tries.
func (w *work) level() api.Level {
	l, _ := chain.Level(w.category, w.Level)
	return l
}

// ended tells whether a flow in that phase has.
func ended(p api.FlowPhase) bool {
	switch p {
	case api.FlowAcked, api.FlowDone, api.FlowOff, api.FlowFailed:
		return true
	}
	return false
}

// isTime tells whether t is one.
func isTime(t int64) bool {
	return t >= api.MinTime && t <= api.MaxTime
}
