package state_test

import (
	"math/rand"
	"reflect"
	"slices"
	"strings"
	"testing"
	"unsafe"

	"bellman/api"
	"bellman/heap"
	"bellman/state"
)

// anyState is some right state of few users and categories.
func anyState(r *rand.Rand) api.State {
	s := api.State{Now: noon + r.Int63n(50), Event: r.Int63n(3), Flow: r.Int63n(3), Batch: r.Int63n(3), Message: r.Int63n(4)}
	for _, name := range []string{"ann", "bob", "cid"}[:1+r.Intn(3)] {
		s.Users = append(s.Users, api.User{Name: name, Version: r.Int63n(3)})
	}
	for _, name := range []string{"alarm", "news"}[:1+r.Intn(2)] {
		s.Categories = append(s.Categories, category(name))
	}
	for range r.Intn(7) {
		anyPlace(r, &s)
	}
	// Whose places they are is mixed among the events: they are numbered as they come.
	many := int64(0)
	for _, i := range r.Perm(len(s.Flows) + len(s.Batches)) {
		for range 1 + r.Intn(3) {
			many++
			id := s.Event + many
			if i < len(s.Flows) {
				f := &s.Flows[i]
				f.Events = append(f.Events, id)
				s.Events = append(s.Events, event(id, f.User, f.Category, f.Id, 0))
			} else {
				b := &s.Batches[i-len(s.Flows)]
				b.Events = append(b.Events, id)
				s.Events = append(s.Events, event(id, b.User, b.Category, 0, b.Id))
			}
		}
	}
	s.Event += many
	s = timed(s)
	for i := range s.Timers {
		s.Timers[i].Seq += r.Int63n(2) * 100
	}
	s.Timers, _ = heap.Make(s.Timers...)
	s.Seq = 200
	return s
}

// anyPlace puts some flow, or batch, in that has no events yet.
func anyPlace(r *rand.Rand, s *api.State) {
	user, name := s.Users[r.Intn(len(s.Users))].Name, s.Categories[r.Intn(len(s.Categories))].Name
	taken := slices.ContainsFunc(s.Batches, func(b api.Batch) bool { return b.User == user && b.Category == name })
	if r.Intn(3) == 0 && !taken {
		s.Batch += 1 + r.Int63n(2)
		s.Batches = append(s.Batches, api.Batch{Id: s.Batch, User: user, Category: name, Close: s.Now + 1 + r.Int63n(5)})
		return
	}
	s.Flow += 1 + r.Int63n(2)
	message := int64(0)
	if r.Intn(3) > 0 {
		s.Message++
		message = s.Message
	}
	phase := api.FlowPhase(1 + r.Intn(7))
	at := s.Now - r.Int63n(3)
	if phase <= api.FlowPaused {
		at = s.Now + 1 + r.Int63n(3)
	}
	s.Flows = append(s.Flows, flowOf(s.Flow, user, name, phase, message, at))
}

// numbers are where a state has its numbers of 64 bits, and names where it has whose things are.
func numbers(s *api.State) (numbers []*int64, names []*string) {
	numbers = []*int64{&s.Now, &s.Event, &s.Flow, &s.Batch, &s.Message, &s.Seq}
	for i := range s.Events {
		e := &s.Events[i]
		numbers = append(numbers, &e.Id, &e.At, &e.Flow, &e.Batch)
		names = append(names, &e.User, &e.Category)
	}
	for i := range s.Batches {
		b := &s.Batches[i]
		numbers = append(numbers, &b.Id, &b.Close, &b.Events[0])
		names = append(names, &b.User, &b.Category)
	}
	for i := range s.Flows {
		f := &s.Flows[i]
		numbers = append(numbers, &f.Id, &f.At, &f.Message, &f.Events[len(f.Events)-1])
		names = append(names, &f.User, &f.Category)
	}
	for i := range s.Timers {
		t := &s.Timers[i]
		numbers = append(numbers, &t.Due, &t.Seq, &t.Ref)
	}
	return numbers, names
}

// spoil changes something of a state, which may be right behind it.
func spoil(r *rand.Rand, s *api.State) {
	all, names := numbers(s)
	switch r.Intn(7) {
	case 0, 1, 2:
		*all[r.Intn(len(all))] += r.Int63n(5) - 2
	case 3:
		*all[r.Intn(len(all))] = *all[r.Intn(len(all))]
	case 4:
		if len(names) > 0 {
			*names[r.Intn(len(names))] = []string{"ann", "bob", "cid", "dan", "alarm", "news"}[r.Intn(6)]
		}
	case 5:
		if len(s.Flows) > 0 {
			f := &s.Flows[r.Intn(len(s.Flows))]
			f.Phase, f.Rank = api.FlowPhase(r.Intn(9)), r.Intn(2)
		}
	case 6:
		drop(r, s)
	}
}

// drop takes something off one of a state's lists, or puts it there once more.
func drop(r *rand.Rand, s *api.State) {
	if n := len(s.Events); n > 0 && r.Intn(2) == 0 {
		s.Events = slices.Delete(s.Events, n-1, n)
	}
	if n := len(s.Flows); n > 0 && r.Intn(3) == 0 {
		s.Flows = slices.Delete(s.Flows, n-1, n)
	}
	if n := len(s.Batches); n > 0 && r.Intn(3) == 0 {
		s.Batches = slices.Delete(s.Batches, n-1, n)
	}
	if n := len(s.Timers); n > 0 && r.Intn(3) == 0 {
		s.Timers = slices.Delete(s.Timers, n-1, n)
	} else if n > 0 && r.Intn(3) == 0 {
		more := s.Timers[r.Intn(n)]
		more.Seq = r.Int63n(100)
		s.Timers, _ = heap.Make(append(s.Timers, more)...)
	}
}

func TestAnyStates(t *testing.T) { // 23.1, 23.2, 23.4, 23.5
	r := rand.New(rand.NewSource(23))
	rights, wrongs := 0, 0
	for range 8000 {
		s := anyState(r)
		for round := range 3 {
			right := isRight(s)
			if round == 0 && !right {
				t.Fatalf("the model tells that %+v is not right", s)
			}
			if err := state.Check(s); (err == api.OK) != right || err != api.OK && err != api.ErrForm {
				t.Fatalf("Check of %+v is %d, not %t", s, err, right)
			}
			if right {
				follows(t, s)
				rights++
			} else {
				wrongs++
			}
			spoil(r, &s)
		}
	}
	if rights < 9000 || wrongs < 9000 {
		t.Errorf("%d are right, and %d not", rights, wrongs)
	}
}

// roomy is the sample in memory of its own, with room behind each list.
func roomy() api.State {
	s := sample()
	s.Events[3].Data = api.Value{Kind: api.ValueMap, Names: grown(strings.Clone("a"), strings.Clone("b")), Items: grown(api.Value{Kind: api.ValueText, Text: strings.Clone("x")}, api.Value{Kind: api.ValueList, Items: grown(num(1))})}
	for i := range s.Users {
		u := &s.Users[i]
		u.Name, u.Quiet.Week, u.Outs = strings.Clone(u.Name), grown(u.Quiet.Week...), grown(u.Outs...)
	}
	for i := range s.Categories {
		c := &s.Categories[i]
		c.Name, c.Source, c.Chain = strings.Clone(c.Name), strings.Clone(c.Source), grown(c.Chain...)
	}
	for i := range s.Events {
		s.Events[i].User, s.Events[i].Category = strings.Clone(s.Events[i].User), strings.Clone(s.Events[i].Category)
	}
	for i := range s.Batches {
		b := &s.Batches[i]
		b.User, b.Category, b.Events = strings.Clone(b.User), strings.Clone(b.Category), grown(b.Events...)
	}
	for i := range s.Flows {
		f := &s.Flows[i]
		f.User, f.Category, f.Events = strings.Clone(f.User), strings.Clone(f.Category), grown(f.Events...)
	}
	s.Users, s.Categories, s.Events, s.Batches, s.Flows, s.Timers = grown(s.Users...), grown(s.Categories...), grown(s.Events...), grown(s.Batches...), grown(s.Flows...), grown(s.Timers...)
	return s
}

// grown is the list in memory of its own, with room behind it, in which the last part stands once more.
func grown[P any](l ...P) []P {
	if len(l) == 0 {
		return nil
	}
	return append(append([]P{}, l...), l[len(l)-1])[:len(l)]
}

// places are where all texts and lists within v are, the room behind the lists left out.
func places(v reflect.Value) []unsafe.Pointer {
	var all []unsafe.Pointer
	switch v.Kind() {
	case reflect.String:
		if v.Len() > 0 {
			all = append(all, unsafe.Pointer(unsafe.StringData(v.String())))
		}
	case reflect.Slice:
		if v.Cap() > 0 {
			all = append(all, v.UnsafePointer())
		}
		for i := range v.Len() {
			all = append(all, places(v.Index(i))...)
		}
	case reflect.Struct:
		for i := range v.NumField() {
			all = append(all, places(v.Field(i))...)
		}
	}
	return all
}

func TestAnswersAreNewMemory(t *testing.T) { // 23.3
	s := roomy()
	all := []any{s}
	for range 2 {
		for _, id := range []int64{2, 3, 5, 6} {
			e, _ := state.Event(s, id)
			f, _ := state.Flow(s, id)
			all = append(all, e, f)
		}
		open, _ := state.Open(s)
		left, _, _ := state.Prune(s)
		made, _ := state.Make(5)
		all = append(all, open, left, made)
	}
	seen := map[unsafe.Pointer]int{}
	for i, of := range all {
		for _, p := range places(reflect.ValueOf(of)) {
			if seen[p]++; seen[p] > 1 {
				t.Fatalf("answer %d shares memory: %+v", i, of)
			}
		}
	}
}

// behind are a state's lists with what stands in the room behind them.
func behind(s api.State) string {
	all := []any{s.Users[:4], s.Categories[:4], s.Events[:13], s.Batches[:3], s.Flows[:8], s.Timers[:6]}
	for _, b := range s.Batches {
		all = append(all, b.Events[:len(b.Events)+1])
	}
	for _, f := range s.Flows {
		all = append(all, f.Events[:len(f.Events)+1])
	}
	return told(all...)
}

func TestWhatIsHandedInStaysAsItWas(t *testing.T) { // 23.3
	s := roomy()
	before := behind(s)
	for _, id := range []int64{2, 3, 5, 6, 99} {
		state.Event(s, id)
		state.Flow(s, id)
		state.Where(s, id)
	}
	state.Check(s)
	state.Open(s)
	state.Prune(s)
	if behind(s) != before {
		t.Error("what was handed in is changed")
	}
}

func TestNothingIsKept(t *testing.T) { // 23.3
	s := roomy()
	e, _ := state.Event(s, 5)
	f, _ := state.Flow(s, 1)
	open, _ := state.Open(s)
	left, _, _ := state.Prune(s)
	before := told(e, f, open, left)
	s.Events[3].Data.Items[0].Num, s.Events[3].Data.Names[0], s.Flows[0].Events[0], s.Batches[0].Events[1] = 7, "z", 77, 777
	s.Users[0].Outs[0].Channel, s.Users[0].Quiet.Week[0].To, s.Categories[1].Chain[0].Wait, s.Timers[0].Due = 2, 9, 9, 9
	s.Users[1], s.Categories[0], s.Events[0], s.Flows[2], s.Batches[1] = api.User{}, api.Category{}, api.Event{}, api.Flow{}, api.Batch{}
	if told(e, f, open, left) != before {
		t.Error("an answer changes with what was handed in")
	}
}
