// Package rising has lists whose parts rise, each one above the one ahead of it: see ../../shared/DOC.md, Words.
package rising

import (
	"slices"

	"bellman/api"
	"bellman/fresh"
)

// Kind is what lists of one kind have: at most Most parts, each one right by Check, and above the one ahead of it by Order, which is below 0, if a is below b, and 0, if they stand in one place; Copy is a part in new memory.
type Kind[P any] struct {
	Most  int
	Check func(p P) api.Errno
	Order func(a, b P) int
	Copy  func(p P) P
}

// All tells whether l is right.
func (k Kind[P]) All(l []P) api.Errno {
	wrong := func(p P) bool { return k.Check(p) != api.OK }
	if len(l) > k.Most || slices.ContainsFunc(l, wrong) || !k.rises(l) {
		return api.ErrForm
	}
	return api.OK
}

// Find is the part of l that stands in p's place.
func (k Kind[P]) Find(l []P, p P) (P, api.Errno) {
	var none P
	if err := k.All(l); err != api.OK {
		return none, err
	}
	at, there := slices.BinarySearchFunc(l, p, k.Order)
	if !there {
		return none, api.ErrNone
	}
	return k.Copy(l[at]), api.OK
}

// Put is l with p in its place, or instead of the one that stands there; with an error l as it was.
func (k Kind[P]) Put(l []P, p P) ([]P, api.Errno) {
	if err := k.All(l); err != api.OK {
		return nil, err
	}
	all := k.Copies(l)
	if k.Check(p) != api.OK {
		return all, api.ErrForm
	}
	at, there := slices.BinarySearchFunc(all, p, k.Order)
	switch {
	case there:
		all[at] = k.Copy(p)
	case len(all) == k.Most:
		return all, api.ErrFull
	default:
		all = slices.Insert(all, at, k.Copy(p))
	}
	return all, api.OK
}

// Copies are the parts of l, right or not, in new memory.
func (k Kind[P]) Copies(l []P) []P {
	return fresh.List(l, k.Copy)
}

// rises tells whether each part is above the one ahead of it.
func (k Kind[P]) rises(l []P) bool {
	for i := 1; i < len(l); i++ {
		if k.Order(l[i-1], l[i]) >= 0 {
			return false
		}
	}
	return true
}
