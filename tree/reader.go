package tree

import (
	"slices"

	"standish/api"
	"standish/format"
	"standish/rematch"
)

// end stands behind the last character of a snippet; it is not a character itself.
const end rune = -1

// reader reads a snippet from left to right.
type reader struct {
	text   []rune
	tokens []api.Token // at each index the token that begins there; an empty rest where none does, and at the end
	at     int         // the index of the next character
}

// newReader returns a reader that stands at the beginning of a snippet with these tokens.
func newReader(s []rune, tokens []api.Token) *reader {
	r := &reader{text: s, tokens: make([]api.Token, len(s)+1)}
	for _, t := range tokens {
		r.tokens[t.From] = t
	}
	return r
}

// next returns the character at which the reader stands, or end.
func (r *reader) next() rune {
	return r.char(r.at)
}

// second returns the character behind that one, or end.
func (r *reader) second() rune {
	return r.char(r.at + 1)
}

// char returns the character at an index, or end.
func (r *reader) char(at int) rune {
	if at >= len(r.text) {
		return end
	}
	return r.text[at]
}

// take reads the next character, which is not the end.
func (r *reader) take() rune {
	c := r.next()
	r.at++
	return c
}

// takes reads c if it stands there, and reports whether it does.
func (r *reader) takes(c rune) bool {
	if r.next() != c {
		return false
	}
	r.at++
	return true
}

// construct reads what begins with the $ that stands there, and reports whether that is complete. A placeholder is read only up to its :.
func (r *reader) construct() (api.Node, bool) {
	r.at++
	braced := r.takes('{')
	n, ok := r.subject()
	if ok && braced {
		ok = r.rest(&n)
	}
	return n, ok
}

// subject reads a number, as a tab stop, or a name, as a variable, and reports whether one stands there.
func (r *reader) subject() (api.Node, bool) {
	t := r.tokens[r.at]
	written := r.text[t.From:t.To]
	switch t.Kind {
	case api.LexInt:
		r.at = t.To
		n, ok := number(written)
		return api.Node{Kind: api.NodeTab, Num: n}, ok
	case api.LexName:
		r.at = t.To
		return api.Node{Kind: api.NodeVar, Text: slices.Clone(written)}, len(written) <= api.MaxName
	}
	return api.Node{}, false
}

// number returns the value of some digits, and reports whether it is not too great.
func number(digits []rune) (int, bool) {
	n := 0
	for _, c := range digits {
		n = min(n*10+int(c-'0'), api.MaxNum+1) // there may be more digits than an int holds
	}
	return n, n <= api.MaxNum
}

// rest reads what follows the number or the name in braces, makes of n what it says, and reports whether it is complete.
func (r *reader) rest(n *api.Node) bool {
	numbered := n.Kind == api.NodeTab
	switch {
	case r.takes('}'):
		return true
	case r.takes(':'):
		n.Kind = api.NodeElse
		if numbered {
			n.Kind = api.NodePlace
		}
		return true
	case r.takes('/'):
		n.Kind = api.NodeVarOf
		if numbered {
			n.Kind = api.NodeForm
		}
		return r.transformation(n)
	case numbered && r.takes('|'):
		n.Kind = api.NodeChoice
		return r.items(n)
	}
	return false
}

// items reads the items of a choice up to the }, and reports whether all of that stands there.
func (r *reader) items(n *api.Node) bool {
	for len(n.Items) < api.MaxChoice {
		n.Items = append(n.Items, r.item())
		if !r.takes(',') {
			return r.takes('|') && r.takes('}')
		}
	}
	return false
}

// item reads an item of a choice, up to what cannot belong to it.
func (r *reader) item() []rune {
	var item []rune
	for {
		switch r.next() {
		case ',', '|', end:
			return item
		case '\\':
			if c := r.second(); c == ',' || c == '|' || c == '\\' {
				r.at++
			}
			fallthrough
		default:
			item = append(item, r.take())
		}
	}
}

// transformation reads a pattern, a format and flags up to the }, and reports whether all of that stands there.
func (r *reader) transformation(n *api.Node) bool {
	n.Pattern = r.pattern()
	if !r.takes('/') {
		return false
	}
	if _, f := rematch.New(n.Pattern, false); f.Code != api.OK { // with Fold it would have the same fault
		return false
	}
	forms, slash, ok := format.Scan(r.text, r.at)
	if !ok {
		return false
	}
	n.Forms = forms
	r.at = slash + 1
	r.flags(n)
	return r.takes('}')
}

// pattern reads a pattern, up to the / that ends it.
func (r *reader) pattern() []rune {
	var pattern []rune
	for {
		switch r.next() {
		case '/', end:
			return pattern
		case '\\':
			if r.second() == '/' {
				r.at++
			} else if r.second() != end {
				pattern = append(pattern, r.take())
			}
			fallthrough // whatever the second character of the pair is, it does not end the pattern
		default:
			pattern = append(pattern, r.take())
		}
	}
}

// flags reads the flags that stand there, each of them once at most.
func (r *reader) flags(n *api.Node) {
	n.All = r.takes('g')
	n.Fold = r.takes('i')
	n.All = n.All || r.takes('g')
}
