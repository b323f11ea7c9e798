// Package fresh has the things of package api in new memory, as an answer is: see ../../shared/DOC.md, Words.
package fresh

import (
	"slices"
	"strings"

	"bellman/api"
)

// List is l in new memory, each part as it is copied.
func List[P any](l []P, copied func(P) P) []P {
	var all []P
	for _, part := range l {
		all = append(all, copied(part))
	}
	return all
}

// Value is v in new memory. It is to be right: one made by hand may have itself within, and there would be no end.
func Value(v api.Value) api.Value {
	v.Text = strings.Clone(v.Text)
	v.Names = List(v.Names, strings.Clone)
	v.Items = List(v.Items, Value)
	return v
}

// Quiet is q in new memory.
func Quiet(q api.Quiet) api.Quiet {
	q.Week = slices.Clone(q.Week)
	return q
}

// Out is o in new memory.
func Out(o api.Out) api.Out {
	o.Category = strings.Clone(o.Category)
	return o
}

// User is u in new memory.
func User(u api.User) api.User {
	u.Name = strings.Clone(u.Name)
	u.Quiet = Quiet(u.Quiet)
	u.Outs = List(u.Outs, Out)
	return u
}

// Category is c in new memory.
func Category(c api.Category) api.Category {
	c.Name = strings.Clone(c.Name)
	c.Chain = slices.Clone(c.Chain)
	c.Source = strings.Clone(c.Source)
	return c
}

// Event is e in new memory; its Data is to be right.
func Event(e api.Event) api.Event {
	e.User = strings.Clone(e.User)
	e.Category = strings.Clone(e.Category)
	e.Data = Value(e.Data)
	return e
}

// Batch is b in new memory.
func Batch(b api.Batch) api.Batch {
	b.User = strings.Clone(b.User)
	b.Category = strings.Clone(b.Category)
	b.Events = slices.Clone(b.Events)
	return b
}

// Flow is f in new memory.
func Flow(f api.Flow) api.Flow {
	f.User = strings.Clone(f.User)
	f.Category = strings.Clone(f.Category)
	f.Events = slices.Clone(f.Events)
	return f
}

// Message is m in new memory.
func Message(m api.Message) api.Message {
	m.User = strings.Clone(m.User)
	m.Category = strings.Clone(m.Category)
	m.Text = strings.Clone(m.Text)
	return m
}

// State is s in new memory; the Data of its events are to be right.
func State(s api.State) api.State {
	s.Users = List(s.Users, User)
	s.Categories = List(s.Categories, Category)
	s.Events = List(s.Events, Event)
	s.Batches = List(s.Batches, Batch)
	s.Flows = List(s.Flows, Flow)
	s.Timers = slices.Clone(s.Timers)
	return s
}
