package flow_test

import (
	"math/rand"
	"testing"

	"bellman/api"
	"bellman/flow"
	"bellman/pref"
	"bellman/quiet"
)

const noon = int64(1774785600) // 2026-3-29, a Sunday, 12:00

// level is one of a chain.
func level(c api.Channel, wait int64, tries int, pause int64) api.Level {
	return api.Level{Channel: c, Wait: wait, Tries: tries, Pause: pause}
}

// chained is a right category of those levels.
func chained(l ...api.Level) api.Category {
	return api.Category{Name: "news", Chain: l}
}

// critical is c, and critical.
func critical(c api.Category) api.Category {
	c.Critical = true
	return c
}

// user is a right one of those quiet hours and outs.
func user(q api.Quiet, l ...api.Out) api.User {
	return api.User{Name: "ann", Quiet: q, Outs: l}
}

// nights are quiet hours from 22:00 to 7:00, each day.
func nights() api.Quiet {
	l := []api.Range{{From: 0, To: 420}}
	for day := range 6 {
		l = append(l, api.Range{From: day*1440 + 1320, To: day*1440 + 1860})
	}
	return api.Quiet{Week: append(l, api.Range{From: 9960, To: 10080})}
}

// always are quiet hours without an end.
func always() api.Quiet {
	return api.Quiet{Week: []api.Range{{From: 0, To: 10080}}}
}

// step is one of the calls that make a flow go on.
type step struct {
	name string
	call func(f api.Flow, u api.User, c api.Category, t int64) (api.Flow, bool, api.Errno)
}

// steps are all of them.
func steps() []step {
	return []step{
		{"Start", flow.Start},
		{"Wake", flow.Wake},
		{"Result with ok", func(f api.Flow, u api.User, c api.Category, t int64) (api.Flow, bool, api.Errno) {
			return flow.Result(f, u, c, t, true)
		}},
		{"Result without", func(f api.Flow, u api.User, c api.Category, t int64) (api.Flow, bool, api.Errno) {
			return flow.Result(f, u, c, t, false)
		}},
	}
}

// onward is what going on tells of a right flow whose level is one of c's, or behind the last one.
func onward(f api.Flow, u api.User, c api.Category, t int64) (api.Flow, bool, api.Errno) {
	var wanted []int
	for i := f.Level; i < len(c.Chain); i++ {
		if is, _ := pref.Wants(u, c.Name, c.Chain[i].Channel); is {
			wanted = append(wanted, i)
		}
	}
	free := t
	never := api.OK
	if !c.Critical {
		free, never = quiet.Free(u.Quiet, t)
	}
	if len(wanted) == 0 || never != api.OK {
		return over(f, t), false, api.OK
	}
	if wanted[0] > f.Level {
		f.Level, f.Tries, f.Bad = wanted[0], 0, false
	}
	if free > t {
		f.Phase, f.At = api.FlowHeld, free
		return f, false, api.OK
	}
	if f.Tries == 0 {
		f.Rank++
	}
	f.Tries, f.Bad = f.Tries+1, false
	f.Phase, f.At = api.FlowDone, t+c.Chain[f.Level].Wait
	if f.At > t {
		f.Phase = api.FlowOut
	}
	if f.At > maxTime {
		return f, false, api.ErrClock
	}
	return f, true, api.OK
}

// over is a flow that ends for want of levels.
func over(f api.Flow, t int64) api.Flow {
	f.At = t
	f.Phase = api.FlowDone
	if f.Bad {
		f.Phase = api.FlowFailed
	}
	if f.Rank == 0 {
		f.Phase = api.FlowOff
	}
	return f
}

// given is a flow whose level is given up.
func given(f api.Flow, u api.User, c api.Category, t int64, bad bool) (api.Flow, bool, api.Errno) {
	f.Bad = bad
	if f.Level+1 >= len(c.Chain) {
		return over(f, t), false, api.OK
	}
	f.Level++
	f.Tries = 0
	return onward(f, u, c, t)
}

// failed is a flow whose last try failed.
func failed(f api.Flow, u api.User, c api.Category, t int64) (api.Flow, bool, api.Errno) {
	if f.Level == len(c.Chain) || f.Tries >= c.Chain[f.Level].Tries {
		return given(f, u, c, t, true)
	}
	f.Phase, f.Bad, f.At = api.FlowPaused, true, t+c.Chain[f.Level].Pause
	if f.At > maxTime {
		return f, false, api.ErrClock
	}
	return f, false, api.OK
}

// expected is what a call must tell of a right flow, user and category of one another, at a time.
func expected(name string, f api.Flow, u api.User, c api.Category, t int64) (api.Flow, bool, api.Errno) {
	next, send, err := f, false, api.ErrState
	waits := f.Phase == api.FlowHeld || f.Phase == api.FlowOut || f.Phase == api.FlowPaused
	switch {
	case f.Level > len(c.Chain):
		return f, false, api.ErrRange
	case name == "Start" && f.Phase == api.FlowNone:
		next, send, err = onward(f, u, c, t)
	case name == "Wake" && waits && f.At <= t && f.Phase != api.FlowOut:
		next, send, err = onward(f, u, c, t)
	case name == "Wake" && waits && f.At <= t:
		next, send, err = given(f, u, c, t, false)
	case name == "Result with ok" && f.Phase == api.FlowOut:
		err = api.OK
	case name == "Result without" && f.Phase == api.FlowOut:
		next, send, err = failed(f, u, c, t)
	}
	if err == api.OK && (next.Tries > 5 || next.Rank > 4) {
		err = api.ErrRange
	}
	if err != api.OK {
		return f, false, err
	}
	return next, send, api.OK
}

// as is a right flow in that phase.
func as(phase api.FlowPhase, level, rank, tries int, at int64, bad bool) api.Flow {
	return with(func(f *api.Flow) {
		f.Phase, f.Level, f.Rank, f.Tries, f.At, f.Bad = phase, level, rank, tries, at, bad
	})
}

func TestExampleOfTheChapter(t *testing.T) { // 21.2
	c := chained(level(1, 300, 1, 1), level(2, 0, 1, 1))
	u := user(api.Quiet{})
	f, send, err := flow.Start(made(), u, c, noon)
	if want := as(api.FlowOut, 0, 1, 1, noon+300, false); told(f) != told(want) || !send || err != api.OK {
		t.Fatalf("Start is %+v, %t, %d", f, send, err)
	}
	f, send, err = flow.Wake(f, u, c, noon+300)
	if want := as(api.FlowDone, 1, 2, 1, noon+300, false); told(f) != told(want) || !send || err != api.OK {
		t.Fatalf("Wake is %+v, %t, %d", f, send, err)
	}
}

func TestStepsTellHowItGoesOn(t *testing.T) { // 21.2
	night, morning, last := noon+11*3600, noon+19*3600, maxTime
	free, nightly, never := user(api.Quiet{}), user(nights()), user(always())
	noPush, noMail := user(api.Quiet{}, api.Out{Channel: 1}), user(api.Quiet{}, api.Out{Channel: 2})
	nothing := user(api.Quiet{}, api.Out{})
	all := steps()
	start, wake, good, bad := all[0], all[1], all[2], all[3]
	none, held, out, paused := api.FlowNone, api.FlowHeld, api.FlowOut, api.FlowPaused
	done, off, fails := api.FlowDone, api.FlowOff, api.FlowFailed
	c := chained(level(1, 300, 2, 10), level(2, 50, 1, 7), level(3, 0, 1, 1))
	two := chained(level(1, 300, 1, 10), level(1, 300, 1, 10))
	far := chained(level(1, 300, 2, 10), level(2, 300, 1, 7))
	for i, w := range []struct {
		step step
		f    api.Flow
		u    api.User
		c    api.Category
		t    int64
		want api.Flow
		send bool
		err  api.Errno
	}{
		// It is begun: sent, held, by another level, or not at all.
		{start, as(none, 0, 0, 0, 0, false), free, c, noon, as(out, 0, 1, 1, noon+300, false), true, api.OK},
		{start, as(none, 0, 0, 0, 0, false), nightly, c, night, as(held, 0, 0, 0, morning, false), false, api.OK},
		{start, as(none, 0, 0, 0, 0, false), nightly, critical(c), night, as(out, 0, 1, 1, night+300, false), true, api.OK},
		{start, as(none, 0, 0, 0, 0, false), noPush, c, noon, as(out, 1, 1, 1, noon+50, false), true, api.OK},
		{start, as(none, 0, 0, 0, 0, false), nothing, c, noon, as(off, 0, 0, 0, noon, false), false, api.OK},
		{start, as(none, 0, 0, 0, 0, false), never, c, noon, as(off, 0, 0, 0, noon, false), false, api.OK},
		{start, as(none, 2, 0, 0, 0, false), free, c, noon, as(done, 2, 1, 1, noon, false), true, api.OK},
		{start, as(none, 3, 0, 0, 0, false), free, c, noon, as(off, 3, 0, 0, noon, false), false, api.OK},
		{start, as(none, 4, 0, 0, 0, false), free, c, noon, as(none, 4, 0, 0, 0, false), false, api.ErrRange},
		// One made by hand may have been tried, or be bad, ahead of its beginning.
		{start, as(none, 0, 3, 2, 0, true), free, c, noon, as(out, 0, 3, 3, noon+300, false), true, api.OK},
		{start, as(none, 0, 3, 2, 0, true), noPush, c, noon, as(out, 1, 4, 1, noon+50, false), true, api.OK},
		{start, as(none, 0, 3, 2, 0, true), nothing, c, noon, as(fails, 0, 3, 2, noon, true), false, api.OK},
		{start, as(none, 0, 3, 2, 0, false), nothing, c, noon, as(done, 0, 3, 2, noon, false), false, api.OK},
		{start, as(none, 0, 0, 2, 0, true), nothing, c, noon, as(off, 0, 0, 2, noon, true), false, api.OK},
		{start, as(none, 0, 3, 2, 0, true), nightly, c, night, as(held, 0, 3, 2, morning, true), false, api.OK},
		{start, as(none, 0, 4, 5, 0, true), free, c, noon, as(none, 0, 4, 5, 0, true), false, api.ErrRange},
		{start, as(none, 0, 4, 0, 0, true), free, c, noon, as(none, 0, 4, 0, 0, true), false, api.ErrRange},
		{start, as(none, 0, 4, 4, 0, true), free, c, noon, as(out, 0, 4, 5, noon+300, false), true, api.OK},
		// What was held, or paused, is sent again.
		{wake, as(held, 0, 0, 0, noon, false), free, c, noon, as(out, 0, 1, 1, noon+300, false), true, api.OK},
		{wake, as(held, 0, 0, 0, noon, false), free, c, noon + 9, as(out, 0, 1, 1, noon+309, false), true, api.OK},
		{wake, as(held, 0, 0, 0, noon+1, false), free, c, noon, as(held, 0, 0, 0, noon+1, false), false, api.ErrState},
		{wake, as(held, 0, 1, 1, noon, true), nothing, c, noon, as(fails, 0, 1, 1, noon, true), false, api.OK},
		{wake, as(paused, 0, 1, 1, noon, true), free, c, noon, as(out, 0, 1, 2, noon+300, false), true, api.OK},
		{wake, as(paused, 0, 1, 1, noon, true), nightly, c, night, as(held, 0, 1, 1, morning, true), false, api.OK},
		{wake, as(held, 0, 1, 1, morning, true), nightly, c, morning, as(out, 0, 1, 2, morning+300, false), true, api.OK},
		{wake, as(paused, 0, 1, 1, noon, true), noPush, c, noon, as(out, 1, 2, 1, noon+50, false), true, api.OK},
		{wake, as(paused, 0, 1, 1, noon, true), nothing, c, noon, as(fails, 0, 1, 1, noon, true), false, api.OK},
		{wake, as(paused, 0, 1, 1, noon+1, true), free, c, noon, as(paused, 0, 1, 1, noon+1, true), false, api.ErrState},
		// What was not answered goes on by the next level that is wanted.
		{wake, as(out, 0, 1, 1, noon, false), free, c, noon, as(out, 1, 2, 1, noon+50, false), true, api.OK},
		{wake, as(out, 0, 1, 2, noon, true), free, c, noon, as(out, 1, 2, 1, noon+50, false), true, api.OK},
		{wake, as(out, 0, 1, 2, noon, false), noMail, c, noon, as(done, 2, 2, 1, noon, false), true, api.OK},
		{wake, as(out, 1, 2, 1, noon, false), free, c, noon, as(done, 2, 3, 1, noon, false), true, api.OK},
		{wake, as(out, 2, 3, 1, noon, false), free, c, noon, as(done, 2, 3, 1, noon, false), false, api.OK},
		{wake, as(out, 2, 3, 1, noon, true), free, c, noon, as(done, 2, 3, 1, noon, false), false, api.OK},
		{wake, as(out, 3, 3, 1, noon, true), free, c, noon, as(done, 3, 3, 1, noon, false), false, api.OK},
		{wake, as(out, 2, 0, 1, noon, true), free, c, noon, as(off, 2, 0, 1, noon, false), false, api.OK},
		{wake, as(out, 0, 1, 2, night, true), nightly, c, night, as(held, 1, 1, 0, morning, false), false, api.OK},
		{wake, as(out, 0, 1, 2, noon, true), nothing, c, noon, as(done, 1, 1, 0, noon, false), false, api.OK},
		{wake, as(out, 0, 4, 2, noon, false), free, c, noon, as(out, 0, 4, 2, noon, false), false, api.ErrRange},
		{wake, as(out, 0, 1, 1, noon+1, false), free, c, noon, as(out, 0, 1, 1, noon+1, false), false, api.ErrState},
		// A result: as it was, another try, or the next level.
		{good, as(out, 0, 1, 1, noon+300, true), free, c, noon, as(out, 0, 1, 1, noon+300, true), false, api.OK},
		{good, as(out, 0, 1, 1, noon, false), nothing, c, noon + 300, as(out, 0, 1, 1, noon, false), false, api.OK},
		{good, as(out, 3, 1, 1, noon, false), never, c, noon, as(out, 3, 1, 1, noon, false), false, api.OK},
		{bad, as(out, 0, 1, 1, noon+300, false), free, c, noon, as(paused, 0, 1, 1, noon+10, true), false, api.OK},
		{bad, as(out, 0, 1, 1, noon, false), nothing, c, noon + 300, as(paused, 0, 1, 1, noon+310, true), false, api.OK},
		{bad, as(out, 0, 1, 2, noon+300, false), free, c, noon, as(out, 1, 2, 1, noon+50, false), true, api.OK},
		{bad, as(out, 0, 1, 3, noon+300, false), free, c, noon, as(out, 1, 2, 1, noon+50, false), true, api.OK},
		{bad, as(out, 0, 1, 2, noon+300, false), noMail, c, noon, as(done, 2, 2, 1, noon, false), true, api.OK},
		{bad, as(out, 0, 1, 2, noon+300, false), nothing, c, noon, as(fails, 1, 1, 0, noon, true), false, api.OK},
		{bad, as(out, 0, 1, 2, night, false), nightly, c, night, as(held, 1, 1, 0, morning, true), false, api.OK},
		{bad, as(out, 0, 1, 2, night, false), user(nights(), api.Out{Channel: 2}), c, night, as(held, 2, 1, 0, morning, false), false, api.OK},
		{bad, as(out, 2, 3, 1, noon, false), free, c, noon, as(fails, 2, 3, 1, noon, true), false, api.OK},
		{bad, as(out, 3, 3, 0, noon, false), free, c, noon, as(fails, 3, 3, 0, noon, true), false, api.OK},
		{bad, as(out, 2, 0, 1, noon, false), free, c, noon, as(off, 2, 0, 1, noon, true), false, api.OK},
		// Of one channel twice each level is one.
		{wake, as(out, 0, 1, 1, noon, false), free, two, noon, as(out, 1, 2, 1, noon+300, false), true, api.OK},
		// What would wait longer than there is time.
		{start, as(none, 0, 0, 0, 0, false), free, far, last - 300, as(out, 0, 1, 1, last, false), true, api.OK},
		{start, as(none, 0, 0, 0, 0, false), free, far, last - 299, as(none, 0, 0, 0, 0, false), false, api.ErrClock},
		{start, as(none, 0, 4, 5, 0, false), free, far, last, as(none, 0, 4, 5, 0, false), false, api.ErrClock},
		{wake, as(out, 0, 1, 1, 0, false), free, far, last, as(out, 0, 1, 1, 0, false), false, api.ErrClock},
		{wake, as(out, 1, 1, 1, 0, false), free, far, last, as(done, 1, 1, 1, last, false), false, api.OK},
		{wake, as(paused, 0, 1, 1, 0, true), free, far, last, as(paused, 0, 1, 1, 0, true), false, api.ErrClock},
		{bad, as(out, 0, 1, 1, 0, false), free, far, last - 10, as(paused, 0, 1, 1, last, true), false, api.OK},
		{bad, as(out, 0, 1, 1, 0, false), free, far, last - 9, as(out, 0, 1, 1, 0, false), false, api.ErrClock},
		{bad, as(out, 0, 1, 2, 0, false), free, far, last, as(out, 0, 1, 2, 0, false), false, api.ErrClock},
		{bad, as(out, 1, 1, 2, 0, false), free, far, last, as(fails, 1, 1, 2, last, true), false, api.OK},
		{start, as(none, 2, 0, 0, 0, false), free, c, last, as(done, 2, 1, 1, last, false), true, api.OK},
		{start, as(none, 0, 0, 0, 0, false), free, c, minTime, as(out, 0, 1, 1, minTime+300, false), true, api.OK},
	} {
		f, send, err := w.step.call(w.f, w.u, w.c, w.t)
		if told(f) != told(w.want) || send != w.send || err != w.err {
			t.Errorf("%d: %s is %+v, %t, %d, not %+v, %t, %d", i, w.step.name, f, send, err, w.want, w.send, w.err)
		}
		// What is expected is told in two ways, which must be one.
		f, send, err = expected(w.step.name, w.f, w.u, w.c, w.t)
		if told(f) != told(w.want) || send != w.send || err != w.err {
			t.Errorf("%d: expected of %s is %+v, %t, %d", i, w.step.name, f, send, err)
		}
	}
}

// chains are categories of many chains.
func chains() []api.Category {
	all := []api.Category{
		chained(level(1, 1, 1, 1)),
		chained(level(2, 0, 5, 7)),
		chained(level(1, 300, 2, 10), level(2, 0, 1, 1)),
		chained(level(3, 0, 2, 10), level(1, 60, 3, 50)),
		chained(level(1, 300, 2, 10), level(2, 50, 1, 7), level(3, 0, 1, 1)),
		chained(level(1, 5, 1, 10), level(1, 0, 5, 7), level(1, 7, 5, 1)),
		chained(level(1, 300, 1, 10), level(2, 300, 5, 20), level(3, 300, 3, 30), level(1, 2592000, 2, 2592000)),
		chained(level(3, 0, 1, 10), level(2, 0, 2, 20), level(1, 0, 3, 30), level(1, 0, 4, 40)),
	}
	for _, c := range all {
		all = append(all, critical(c))
	}
	return all
}

// users are of many quiet hours and outs.
func users() []api.User {
	var all []api.User
	for _, q := range []api.Quiet{{}, nights(), always()} {
		for bits := range 8 {
			u := user(q)
			for c := range 3 {
				if bits>>c&1 == 1 {
					u.Outs = append(u.Outs, api.Out{Channel: api.Channel(c + 1)})
				}
			}
			all = append(all, u)
		}
	}
	return append(all, user(api.Quiet{}, api.Out{Category: "news", Channel: 2}), user(nights(), api.Out{}), user(nights(), api.Out{Category: "other"}))
}

// moments are times, those of edges among them.
func moments() []int64 {
	return []int64{minTime, -1, 0, noon - 1, noon, noon + 9*3600, noon + 10*3600 - 1, noon + 10*3600, noon + 11*3600, noon + 19*3600, maxTime - 2592000, maxTime - 300, maxTime - 299, maxTime - 7, maxTime}
}

func TestStepsOfAnyFlow(t *testing.T) { // 21.2, 21.5, 21.6
	r := rand.New(rand.NewSource(21))
	all, us, at := chains(), users(), moments()
	seen := map[string]int{}
	for range 150000 {
		c, u, now := all[r.Intn(len(all))], us[r.Intn(len(us))], at[r.Intn(len(at))]
		f := as(api.FlowPhase(r.Intn(8)), r.Intn(5), r.Intn(5), r.Intn(6), at[r.Intn(len(at))], r.Intn(2) == 0)
		if r.Intn(2) == 0 {
			f.Phase, f.Level = f.Phase%4, f.Level%(len(c.Chain)+1)
		}
		for _, s := range steps() {
			want, sends, no := expected(s.name, f, u, c, now)
			next, send, err := s.call(f, u, c, now)
			if told(next) != told(want) || send != sends || err != no {
				t.Fatalf("%s(%+v, %+v, %+v, %d) is %+v, %t, %d, not %+v, %t, %d", s.name, f, u, c, now, next, send, err, want, sends, no)
			}
			allowed(t, f, u, c, now, next, send)
			seen[told(s.name, next.Phase, send, int(err))]++
			if ended, _ := flow.Ended(f); ended && (told(next) != told(f) || err == api.OK) {
				t.Fatalf("%s of %+v, that has ended, is %+v, %d", s.name, f, next, err)
			}
		}
	}
	if len(seen) < 70 {
		t.Errorf("%d ways to go on were seen: %v", len(seen), seen)
	}
}

// allowed fails, if what is to be sent is not wanted, or if it is quiet then; or if the Rank is not one more just with the first try of a level.
func allowed(t *testing.T, f api.Flow, u api.User, c api.Category, now int64, next api.Flow, send bool) {
	t.Helper()
	rank := f.Rank
	if send && next.Tries == 1 {
		rank++
	}
	if next.Rank != rank {
		t.Fatalf("the rank of %+v, sent %t, is %d behind %+v", next, send, next.Rank, f)
	}
	if !send {
		return
	}
	is, err := pref.Wants(u, c.Name, c.Chain[next.Level].Channel)
	busy, _ := quiet.In(u.Quiet, now)
	if !is || err != api.OK || busy && !c.Critical {
		t.Fatalf("%+v is sent to %+v at %d", next, u, now)
	}
}

func TestFlowsFromTheirBeginningToTheirEnd(t *testing.T) { // 21.5, 21.6
	r := rand.New(rand.NewSource(22))
	all, us := chains(), users()
	ends := map[api.FlowPhase]int{}
	for range 3000 {
		c := all[r.Intn(len(all))]
		now := noon + r.Int63n(86400*7)
		f, _ := flow.Make(1, "ann", "news", 4, 7)
		f, send, err := flow.Start(f, us[r.Intn(len(us))], c, now)
		ranks, tries, last := map[int]int{}, map[int]int{}, 0
		for rounds := 0; ; rounds++ {
			if err != api.OK || flow.Check(f) != api.OK || rounds > 100 {
				t.Fatalf("round %d: %+v, %d", rounds, f, err)
			}
			if send {
				ranks[f.Rank]++
				tries[f.Level]++
				// A rank is told behind the rank ahead of it, and no level is tried more often than it may be.
				if f.Rank > 1 && ranks[f.Rank-1] == 0 || f.Rank < last || f.Tries != ranks[f.Rank] || tries[f.Level] > c.Chain[f.Level].Tries {
					t.Fatalf("%+v is sent, behind %v and %v of %+v", f, ranks, tries, c)
				}
				last = f.Rank
			}
			if is, _ := flow.Ended(f); is {
				break
			}
			u := us[r.Intn(len(us))]
			switch {
			case f.Phase == api.FlowOut && r.Intn(2) == 0:
				f, send, err = flow.Result(f, u, c, now, false)
			case f.Phase == api.FlowOut && r.Intn(9) == 0:
				f, err = flow.Ack(f, now)
				send = false
			default:
				now = max(now, f.At)
				f, send, err = flow.Wake(f, u, c, now)
			}
		}
		ends[f.Phase]++
		stays(t, f, us[0], c, now)
	}
	for _, phase := range []api.FlowPhase{api.FlowAcked, api.FlowDone, api.FlowOff, api.FlowFailed} {
		if ends[phase] < 20 {
			t.Errorf("%d end in phase %d", ends[phase], phase)
		}
	}
}

// stays fails, if what has ended does not stay as it is.
func stays(t *testing.T, f api.Flow, u api.User, c api.Category, now int64) {
	t.Helper()
	for _, s := range steps() {
		for _, at := range []int64{now, now + 1, maxTime, f.At} {
			if g, send, err := s.call(f, u, c, at); told(g) != told(f) || send || err != api.ErrState {
				t.Fatalf("%s of %+v is %+v, %t, %d", s.name, f, g, send, err)
			}
		}
	}
	g, acked := flow.Ack(f, now)
	h, failed := flow.Fail(f, now)
	if told(g, h) != told(f, f) || acked != api.ErrState || failed != api.ErrState {
		t.Fatalf("of %+v Ack is %+v, %d, and Fail is %+v, %d", f, g, acked, h, failed)
	}
}
