package session

import (
	"standish/api"
	"standish/gravity"
)

// Holds reports whether what c removes lies in the active field (P19.2).
func (x *Session) Holds(c api.Change) bool {
	if x == nil {
		return false
	}
	f := x.fields[x.active]
	return c.At >= f.From && len(c.Cut) <= f.To-c.At // c.At plus the length might overflow
}

// Move moves the session by a change in the active field. Nothing that stood in that field stays a field (P19.2).
func (x *Session) Move(c api.Change) bool {
	if !x.Holds(c) {
		return false
	}
	x.dropInner()
	x.moveBy(x.active, c)
	return true
}

// Shift moves the session by a change outside of it (P19.2).
func (x *Session) Shift(c api.Change, right bool) {
	if x == nil {
		return
	}
	shift := func(f api.Span) api.Span {
		return api.Span{From: gravity.Place(f.From, c, right), To: gravity.Place(f.To, c, right)}
	}
	for i, f := range x.fields {
		x.put(i, shift(spanOf(f)))
	}
	x.span = shift(x.span)
}

// moveBy moves the session by field i and a change that lies in that field.
func (x *Session) moveBy(i int, c api.Change) {
	for j, f := range x.fields {
		x.put(j, gravity.Span(spanOf(f), c, x.way(j, i)))
	}
	x.span = gravity.Span(x.span, c, gravity.Grows)
}

// way returns how field j moves when a change lies in field i.
func (x *Session) way(j, i int) int {
	switch {
	case j == i, x.inside(i, j):
		return gravity.Grows
	case j < i:
		return gravity.Ahead
	}
	return gravity.Behind
}

// put gives field i a span.
func (x *Session) put(i int, span api.Span) {
	x.fields[i].From, x.fields[i].To = span.From, span.To
}

// dropInner removes the fields inside the active one, and the mirrors of homes there.
func (x *Session) dropInner() {
	var kept []api.Field
	places := make([]int, len(x.fields)) // where the kept fields come to stand
	for i, f := range x.fields {
		// the home of a home is itself
		if x.inside(i, x.active) || x.inside(f.Of, x.active) {
			continue
		}
		places[i] = len(kept)
		kept = append(kept, f)
	}
	// only now each home has its place
	for i, f := range kept {
		kept[i].Of = places[f.Of]
		if f.Parent != none {
			kept[i].Parent = places[f.Parent]
		}
	}
	x.fields, x.active = kept, places[x.active]
}
