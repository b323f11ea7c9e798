package tree

import (
	"errors"
	"strings"

	"bellman/api"
	"bellman/fresh"
	"bellman/scan"
)

var (
	errStray = errors.New("a tag is without the one that it belongs with")
	errDeep  = errors.New("there are too many levels, or nodes")
)

// Nodes are those of the tokens.
func Nodes(l ...api.Tok) ([]api.Node, api.Errno) {
	if err := scan.Check(l); err != api.OK {
		return nil, err
	}
	err := laid(l)
	if errors.Is(err, errStray) {
		return nil, api.ErrCode
	}
	if errors.Is(err, errDeep) {
		return nil, api.ErrDeep
	}
	all, _ := nodes(l)
	return all, api.OK
}

// Parse is the nodes of the text.
func Parse(s string) ([]api.Node, api.Errno) {
	l, err := scan.Tokens(s)
	if err != api.OK {
		return nil, err
	}
	return Nodes(l...)
}

// laid tells why tokens have no nodes: a stray one, wherever it stands, ahead of too many levels.
func laid(l []api.Tok) error {
	if err := paired(l); err != nil {
		return err
	}
	return bounded(l)
}

// paired tells whether each tag has the one that it belongs with. It doesn't call itself: there may be more levels than nodes may have.
func paired(l []api.Tok) error {
	// open are the tags without an end yet; one that has its TokElse is noted as that.
	var open []api.TokKind
	for _, t := range l {
		last := len(open) - 1
		switch t.Kind {
		case api.TokIf, api.TokEach:
			open = append(open, t.Kind)
		case api.TokElse:
			if last < 0 || open[last] != api.TokIf {
				return errStray
			}
			open[last] = api.TokElse
		case api.TokEnd:
			if last < 0 {
				return errStray
			}
			open = open[:last]
		}
	}
	if len(open) > 0 {
		return errStray
	}
	return nil
}

// bounded tells whether the nodes of paired tokens have no more levels, and are no more, than may be.
func bounded(l []api.Tok) error {
	levels, many := 0, 0
	for _, t := range l {
		switch t.Kind {
		case api.TokElse:
			continue
		case api.TokEnd:
			levels--
			continue
		}
		many++
		if levels == api.MaxDepth || many > api.MaxNodes {
			return errDeep
		}
		if opens(t.Kind) {
			levels++
		}
	}
	return nil
}

// nodes are those of paired tokens up to the first TokElse or TokEnd that belongs to a tag ahead of them; and the tokens from there on.
func nodes(l []api.Tok) ([]api.Node, []api.Tok) {
	var all []api.Node
	for len(l) > 0 && l[0].Kind != api.TokElse && l[0].Kind != api.TokEnd {
		n := api.Node{Kind: l[0].Kind, Text: strings.Clone(l[0].Text), Path: fresh.List(l[0].Path, strings.Clone)}
		l = l[1:]
		if opens(n.Kind) {
			n.Kids, l = nodes(l)
			if l[0].Kind == api.TokElse {
				n.Else, l = nodes(l[1:])
			}
			l = l[1:]
		}
		all = append(all, n)
	}
	return all, l
}
