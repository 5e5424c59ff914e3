package session

import (
	"slices"

	"standish/api"
	"standish/change"
	"standish/expand"
	"standish/lines"
	"standish/signs"
	"standish/tabs"
	"standish/tree"
)

// Open expands a snippet in place of the cut elements of s from index at on, and returns its session and the change that puts its text there (P19.1).
func Open(s []rune, at, cut int, body []rune, e api.Env, used int) (*Session, api.Change, api.Errno) {
	x, c, err := opened(s, at, cut, body, e, used)
	return x, c, codeOf(err)
}

// opened does what Open does. Beside an error, its other results are zero values.
func opened(s []rune, at, cut int, body []rune, e api.Env, used int) (*Session, api.Change, error) {
	// at plus cut might overflow
	if at < 0 || at > len(s) || cut < 0 || cut > len(s)-at {
		return nil, api.Change{}, errArg
	}
	shape, err := expanded(body, e, indentAt(s, at), used)
	if err != nil {
		return nil, api.Change{}, stepError{err, "expand the snippet"}
	}
	c := api.Change{At: at, Cut: slices.Clone(s[at : at+cut]), Put: shape.Text}
	if err := mayMake(s, c); err != nil {
		return nil, api.Change{}, stepError{err, "put the snippet"}
	}
	return begun(shape, at), c, nil
}

// expanded returns the shape of a snippet, or the refusal of the layer that reads it or expands it.
func expanded(body []rune, e api.Env, indent []rune, used int) (api.Shape, error) {
	nodes, fault := tree.Parse(body)
	if fault.Code != api.OK {
		return api.Shape{}, layerError{"tree", fault.Code}
	}
	shape, code := expand.Expand(nodes, e, indent, used)
	if code != api.OK {
		return api.Shape{}, layerError{"expand", code}
	}
	return shape, nil
}

// indentAt returns the indent of the line of an index that s has.
func indentAt(s []rune, at int) []rune {
	line, _, _ := lines.Place(s, at)
	indent, _ := lines.Indent(s, line)
	return indent
}

// mayMake returns an error if s may not have the change c, which cuts what stands there and puts characters.
func mayMake(s []rune, c api.Change) error {
	switch {
	case !signs.May(s):
		return errForm
	case !change.May(s, c): // only the lengths are left to be asked for
		return errFull
	}
	return nil
}

// begun returns the session of a shape whose text stands at an index.
func begun(shape api.Shape, at int) *Session {
	x := &Session{fields: shape.Fields, active: tabs.Order(shape.Fields)[0], span: api.Span{From: at, To: at + len(shape.Text)}, used: shape.Used}
	for i := range x.fields {
		x.fields[i].From += at
		x.fields[i].To += at
	}
	return x
}
