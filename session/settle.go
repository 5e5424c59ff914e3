package session

import (
	"slices"
	"strconv"

	"standish/api"
	"standish/change"
	"standish/expand"
	"standish/signs"
)

// settling is a session that is brought up to date, with the text as it is by then and the changes that led there.
type settling struct {
	*Session
	text    []rune
	changes []api.Change
	lesser  []bool // of each change, whether the index of its mirror is less than that of the active field
}

// Settle brings all mirrors up to date. It returns the changes which that takes (P19.3).
func (x *Session) Settle(s []rune) ([]api.Change, []bool, api.Errno) {
	if x == nil {
		return nil, nil, api.ErrNil
	}
	w, err := x.settled(s)
	if err != nil {
		return nil, nil, codeOf(err)
	}
	*x = *w.Session
	return w.changes, w.lesser, api.OK
}

// settled does what Settle does, with a copy of the session, so that an error changes nothing.
func (x *Session) settled(s []rune) (settling, error) {
	switch {
	case !signs.May(s), x.span.To > len(s):
		return settling{}, errArg
	case len(s) > api.MaxText:
		return settling{}, errFull
	}
	w := settling{Session: x.Copy(), text: s}
	for _, i := range w.mirrors() {
		if err := w.update(i); err != nil {
			return settling{}, stepError{err, "update field " + strconv.Itoa(i)}
		}
	}
	return w, nil
}

// mirrors returns the indices of the mirrors in the order in which they are brought up to date. Those in a home come first, as what they show stands in the text that mirrors of that home show.
func (x *Session) mirrors() []int {
	var nested, others []int
	for i, f := range x.fields {
		switch {
		case f.Of == i: // a home
		case f.Parent != none:
			nested = append(nested, i)
		default:
			others = append(others, i)
		}
	}
	return append(nested, others...)
}

// update brings mirror i up to date.
func (w *settling) update(i int) error {
	f := w.fields[i]
	home := w.fields[f.Of]
	shown, told := w.text[f.From:f.To], expand.Tell(f, w.text[home.From:home.To])
	if signs.Same(shown, told) {
		return nil
	}
	c := api.Change{At: f.From, Cut: slices.Clone(shown), Put: told}
	text, code := change.Apply(w.text, c)
	if code != api.OK { // c cuts what stands there and puts characters, so that the result is too long
		return errFull
	}
	w.text = text
	w.changes = append(w.changes, c)
	w.lesser = append(w.lesser, i < w.active)
	w.moveBy(i, c)
	return nil
}
