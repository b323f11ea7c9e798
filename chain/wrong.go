package chain

import (
	"errors"
	"slices"

	"bellman/api"
	"bellman/esc"
	"bellman/tree"
	"bellman/value"
	"bellman/vet"
)

// asked are the names that a template may ask for.
var asked = [...]string{"user", "count", "items", "rank", "category"}

// fault is what is wrong with a category: which part of it, and the error's number.
type fault struct {
	part   string
	number api.Errno
}

// Error tells which part is wrong.
func (f fault) Error() string {
	return f.number.Error() + ": " + f.part
}

// Unwrap is the number within.
func (f fault) Unwrap() error {
	return f.number
}

// number is the one within what is wrong; OK, if nothing is.
func number(err error) api.Errno {
	within := api.OK
	errors.As(err, &within)
	return within
}

// wrong is what is wrong with c, its name first; nil, if it is right.
func wrong(c api.Category) error {
	part := ""
	switch {
	case value.Name(c.Name) != api.OK:
		part = "name"
	case !windowRight(c.Window, c.Bound):
		part = "window"
	case !chainRight(c.Chain):
		part = "chain"
	case !sourceRight(c.Source):
		part = "source"
	default:
		return nil
	}
	return fault{part, api.ErrForm}
}

// windowRight tells whether a Window is right, with that Bound.
func windowRight(window int64, bound int) bool {
	if window == 0 {
		return bound == 0
	}
	return window > 0 && window <= api.MaxSpan && bound >= 1 && bound <= api.MaxBound
}

// chainRight tells whether the levels are right, and as many as may be.
func chainRight(l []api.Level) bool {
	wrong := func(l api.Level) bool { return !levelRight(l) }
	return len(l) >= 1 && len(l) <= api.MaxLevels && !slices.ContainsFunc(l, wrong)
}

// levelRight tells whether a level is right.
func levelRight(l api.Level) bool {
	if _, err := esc.Most(l.Channel); err != api.OK {
		return false
	}
	waitRight := l.Wait >= 0 && l.Wait <= api.MaxSpan
	triesRight := l.Tries >= 1 && l.Tries <= api.MaxTries
	pauseRight := l.Pause >= 1 && l.Pause <= api.MaxSpan
	return waitRight && triesRight && pauseRight
}

// sourceRight tells whether s is a template that asks for nothing else than it may, and has this where it is something.
func sourceRight(s string) bool {
	l, err := tree.Parse(s)
	names := asked
	return err == api.OK && vet.Only(l, names[:]...) == api.OK && vet.This(l) == api.OK
}
