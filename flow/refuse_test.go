package flow_test

import (
	"slices"
	"strings"
	"testing"
	"unsafe"

	"bellman/api"
	"bellman/flow"
)

// wrongUsers are users that are not right, or not a flow's.
func wrongUsers() []api.User {
	return []api.User{
		{},
		{Name: "Ann"},
		{Name: "bob"},
		{Name: "an"},
		{Name: "ann", Version: -1},
		user(api.Quiet{Zone: api.Zone{Base: 901}}),
		user(api.Quiet{Week: []api.Range{{From: 5, To: 5}}}),
		user(api.Quiet{}, api.Out{Channel: 4}),
		user(api.Quiet{}, api.Out{Channel: 2}, api.Out{Channel: 1}),
	}
}

// wrongCategories are categories that are not right, or not a flow's.
func wrongCategories() []api.Category {
	with := func(change func(c *api.Category)) api.Category {
		c := chained(level(1, 300, 2, 10), level(2, 0, 1, 1))
		change(&c)
		return c
	}
	return []api.Category{
		{},
		chained(),
		with(func(c *api.Category) { c.Name = "News" }),
		with(func(c *api.Category) { c.Name = "new" }),
		with(func(c *api.Category) { c.Name = "ann" }),
		with(func(c *api.Category) { c.Chain = append(c.Chain, c.Chain[1], c.Chain[1], c.Chain[1]) }),
		with(func(c *api.Category) { c.Chain[1].Channel = 4 }),
		with(func(c *api.Category) { c.Chain[1].Tries = 0 }),
		with(func(c *api.Category) { c.Bound = 1 }),
		with(func(c *api.Category) { c.Source = "{{other}}" }),
	}
}

// phased are right flows in all phases, some that are of no level among them.
func phased() []api.Flow {
	var all []api.Flow
	for phase := range api.FlowCount {
		for level := range 5 {
			all = append(all, as(phase, level, 1, 1, noon, true), as(phase, level, 4, 5, noon+1, false))
		}
	}
	return all
}

func TestStepsRefuseWhatIsNotRight(t *testing.T) { // 21.2
	u, c := user(nights()), chained(level(1, 300, 2, 10), level(2, 0, 1, 1))
	us, cs := append(wrongUsers(), u), append(wrongCategories(), c)
	for _, s := range steps() {
		for name, f := range wrongs() {
			for _, at := range append([]int64{noon}, noTimes...) {
				for _, of := range us {
					if g, send, err := s.call(f, of, c, at); told(g) != told(api.Flow{}) || send || err != api.ErrForm {
						t.Fatalf("%s: %s is %+v, %t, %d, not ErrForm", name, s.name, g, send, err)
					}
				}
			}
		}
		// That something is not right, or of another one, is told ahead of no time, of no such level, and of the phase.
		for _, f := range phased() {
			for i, of := range us {
				for k, by := range cs {
					for _, at := range []int64{noon, maxTime, noTimes[0], noTimes[1]} {
						right := i == len(us)-1 && k == len(cs)-1
						if g, send, err := s.call(f, of, by, at); !right && (told(g) != told(f) || send || err != api.ErrForm) {
							t.Fatalf("%s(%+v, %+v, %+v, %d) is %+v, %t, %d, not ErrForm", s.name, f, of, by, at, g, send, err)
						}
					}
				}
			}
		}
	}
}

func TestStepsRefuseWhatIsNoTimeOrLevel(t *testing.T) { // 21.2
	u, c := user(api.Quiet{}), chained(level(1, 300, 2, 10), level(2, 0, 1, 1))
	for _, s := range steps() {
		for _, f := range phased() {
			for _, at := range noTimes {
				if g, send, err := s.call(f, u, c, at); told(g) != told(f) || send || err != api.ErrRange {
					t.Fatalf("%s of %+v at %d is %+v, %t, %d, not ErrRange", s.name, f, at, g, send, err)
				}
			}
			if g, send, err := s.call(f, u, c, noon); f.Level > 2 && (told(g) != told(f) || send || err != api.ErrRange) {
				t.Fatalf("%s of %+v is %+v, %t, %d, not ErrRange", s.name, f, g, send, err)
			}
		}
	}
}

func TestStepsRefuseOtherPhases(t *testing.T) { // 21.2
	u, c := user(api.Quiet{}), chained(level(1, 300, 5, 10), level(2, 0, 1, 1))
	may := map[string][]api.FlowPhase{
		"Start":          {api.FlowNone},
		"Wake":           {api.FlowHeld, api.FlowOut, api.FlowPaused},
		"Result with ok": {api.FlowOut},
		"Result without": {api.FlowOut},
	}
	for _, s := range steps() {
		for phase := range api.FlowCount {
			f := as(phase, 0, 1, 1, noon, false)
			want := api.ErrState
			if slices.Contains(may[s.name], phase) {
				want = api.OK
			}
			if g, send, err := s.call(f, u, c, noon); err != want || err != api.OK && (send || told(g) != told(f)) {
				t.Errorf("%s in phase %d is %+v, %t, %d, not %d", s.name, phase, g, send, err, want)
			}
		}
	}
}

// roomy is a flow of new memory, with room behind its events.
func roomy(phase api.FlowPhase, level int, at int64) api.Flow {
	f := api.Flow{Id: 5, User: strings.Clone("ann"), Category: strings.Clone("news"), Events: upTo(5), Phase: phase, Level: level, Rank: 1, Tries: 1, At: at}
	f.Events = append(f.Events, 777)[:5]
	return f
}

// places are where the flows have their texts and the room of their events.
func places(l ...api.Flow) []unsafe.Pointer {
	var all []unsafe.Pointer
	for _, f := range l {
		if cap(f.Events) > 0 {
			all = append(all, unsafe.Pointer(unsafe.SliceData(f.Events)))
		}
		for _, s := range []string{f.User, f.Category} {
			if s != "" {
				all = append(all, unsafe.Pointer(unsafe.StringData(s)))
			}
		}
	}
	return all
}

func TestAnswersAreNewMemory(t *testing.T) { // 21.4
	u, c := user(nights()), chained(level(1, 300, 2, 10), level(2, 0, 1, 1))
	u.Name, c.Name = strings.Clone(u.Name), strings.Clone(c.Name)
	name, events := strings.Clone("ann"), append(upTo(3), 777)[:3]
	all := []api.Flow{{User: u.Name, Category: c.Name}, {User: name, Events: events}}
	for phase := range api.FlowCount {
		for level := range 4 {
			for _, at := range []int64{noon, noon + 1} {
				f := roomy(phase, level, at)
				before := told(f, f.Events[:6])
				all = append(all, f)
				for _, s := range steps() {
					for _, of := range []api.User{u, {Name: "bob"}} {
						for _, now := range []int64{noon, noon + 11*3600, maxTime, maxTime + 1} {
							g, _, _ := s.call(f, of, c, now)
							all = append(all, g)
						}
					}
				}
				for _, now := range []int64{noon, maxTime + 1} {
					acked, _ := flow.Ack(f, now)
					failed, _ := flow.Fail(f, now)
					all = append(all, acked, failed)
				}
				if told(f, f.Events[:6]) != before {
					t.Errorf("what was handed in is changed: %+v", f)
				}
			}
		}
	}
	for range 2 {
		f, _ := flow.Make(1, name, strings.Clone("news"), events...)
		all = append(all, f)
	}
	seen := map[unsafe.Pointer]int{}
	for _, p := range places(all...) {
		if seen[p]++; seen[p] > 1 {
			t.Fatal("an answer shares memory")
		}
	}
	if events[:4][3] != 777 {
		t.Error("what was handed in is changed")
	}
}

func TestNothingIsKept(t *testing.T) { // 21.4
	u, c := user(api.Quiet{}, api.Out{Channel: 3}), chained(level(1, 300, 2, 10), level(2, 0, 1, 1))
	f := roomy(api.FlowOut, 0, noon)
	events := upTo(3)
	one, _, _ := flow.Wake(f, u, c, noon)
	two, _ := flow.Make(1, "ann", "news", events...)
	before := told(one, two)
	f.Events[0], events[0], u.Outs[0].Channel, c.Chain[0].Wait, c.Chain[1].Wait = 9000, 9000, 1, 7, 9
	if told(one, two) != before {
		t.Error("an answer changes with what was handed in")
	}
	one.Events = one.Events[:cap(one.Events)]
	for i := range one.Events {
		one.Events[i] = -7
	}
	if f.Events[0] != 9000 || f.Events[:6][5] != 777 {
		t.Error("what was handed in changes with an answer")
	}
}
