package format

import (
	"strconv"

	"standish/api"
)

// writer puts together the text of a format.
type writer struct {
	text []rune
}

// word writes s as it is.
func (w *writer) word(s string) {
	for _, c := range s {
		w.text = append(w.text, c)
	}
}

// escaped writes a text with a backslash before each character that needs one.
func (w *writer) escaped(text []rune, inPart bool) {
	for _, c := range text {
		if escapable(c, inPart) {
			w.text = append(w.text, '\\')
		}
		w.text = append(w.text, c)
	}
}

// part writes f.
func (w *writer) part(f api.Form) {
	if f.Kind == api.FormText {
		w.escaped(f.Text, false)
		return
	}
	w.word("${")
	w.word(strconv.Itoa(f.Group))
	w.choice(f)
	w.word("}")
}

// choice writes what stands between the number and the } of f.
func (w *writer) choice(f api.Form) {
	switch f.Kind {
	case api.FormGroup:
		if f.Case != api.CaseNone {
			w.word(":/")
			w.word(caseNames[f.Case])
		}
	case api.FormIf:
		w.word(":+")
		w.escaped(f.Text, true)
	case api.FormElse:
		w.word(":-")
		w.escaped(f.Else, true)
	case api.FormBoth:
		w.word(":?")
		w.escaped(f.Text, true)
		w.word(":")
		w.escaped(f.Else, true)
	}
}
