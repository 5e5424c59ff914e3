package show

import (
	"strconv"
	"strings"

	"standish/api"
	"standish/format"
)

// The characters before which a backslash is written.
const (
	escapedInText    = `$}\`
	escapedInItem    = `,|\`
	escapedInPattern = `/` // also behind a backslash: May leaves none that is read together with a /
)

// writer puts together the text of a snippet that May allows. It keeps no more of it than shows that the text is too long.
type writer struct {
	text []rune
}

// full reports whether the text is too long for a snippet.
func (w *writer) full() bool {
	return len(w.text) > api.MaxSnip
}

// char writes c as it is.
func (w *writer) char(c rune) {
	if !w.full() {
		w.text = append(w.text, c)
	}
}

// word writes s as it is.
func (w *writer) word(s string) {
	for _, c := range s {
		w.char(c)
	}
}

// escaped writes a text with a backslash before each of some characters.
func (w *writer) escaped(text []rune, special string) {
	for _, c := range text {
		if strings.ContainsRune(special, c) {
			w.char('\\')
		}
		w.char(c)
	}
}

// row writes all that stands in a placeholder or in the snippet.
func (w *writer) row(l []api.Node) {
	for len(l) > 0 {
		contents, rest := split(l)
		w.node(l[0], contents)
		l = rest
	}
}

// node writes n and what stands in it.
func (w *writer) node(n api.Node, contents []api.Node) {
	if n.Kind == api.NodeText {
		w.escaped(n.Text, escapedInText)
		return
	}
	w.word("${")
	w.subject(n)
	switch n.Kind {
	case api.NodePlace, api.NodeElse:
		w.word(":")
		w.row(contents)
	case api.NodeChoice:
		w.items(n.Items)
	case api.NodeForm, api.NodeVarOf:
		w.transformation(n)
	}
	w.word("}")
}

// subject writes the name of n, or its number.
func (w *writer) subject(n api.Node) {
	switch n.Kind {
	case api.NodeVar, api.NodeElse, api.NodeVarOf:
		w.word(string(n.Text))
	default:
		w.word(strconv.Itoa(n.Num))
	}
}

// items writes the items of a choice.
func (w *writer) items(items [][]rune) {
	w.word("|")
	for i, item := range items {
		if i > 0 {
			w.word(",")
		}
		w.escaped(item, escapedInItem)
	}
	w.word("|")
}

// transformation writes the pattern, the format and the flags of n.
func (w *writer) transformation(n api.Node) {
	w.word("/")
	w.escaped(n.Pattern, escapedInPattern)
	w.word("/")
	forms, _ := format.Print(n.Forms) // May has asked format.May
	for _, c := range forms {
		w.char(c)
	}
	w.word("/")
	if n.All {
		w.word("g")
	}
	if n.Fold {
		w.word("i")
	}
}
