package format

import "standish/api"

// end stands behind the last character of a text; it is not a character itself.
const end rune = -1

// caseNames holds the name of each case; CaseNone has none.
var caseNames = [...]string{
	api.CaseUp:     "upcase",
	api.CaseDown:   "downcase",
	api.CaseCap:    "capitalize",
	api.CasePascal: "pascalcase",
	api.CaseCamel:  "camelcase",
}

// reader reads a text of characters from left to right.
type reader struct {
	text []rune
	at   int // the index of the next character
	// unclosed is set once a } was looked for in vain, so that a text of many parts that nothing closes is searched only once. A text that begins
	// later has no } behind it either: it begins behind one of : + - ? and thus not between a backslash and the character that is read with it.
	unclosed bool
}

// next returns the character at which the reader stands, or end.
func (r *reader) next() rune {
	if r.at == len(r.text) {
		return end
	}
	return r.text[r.at]
}

// takes reads c if it stands there, and reports whether it does.
func (r *reader) takes(c rune) bool {
	if r.next() != c {
		return false
	}
	r.at++
	return true
}

// takesWord reads word if it stands there, and reports whether it does.
func (r *reader) takesWord(word string) bool {
	start := r.at
	for _, c := range word {
		if !r.takes(c) {
			r.at = start
			return false
		}
	}
	return true
}

// parts reads up to the / that ends the format, or to the end of the text if there is none.
func (r *reader) parts() []api.Form {
	var l []api.Form
	var text []rune
	for {
		switch r.next() {
		case '/', end:
			return withText(l, text)
		case '$':
			if part, ok := r.part(); ok {
				l = append(withText(l, text), part)
				text = nil
				continue
			}
			fallthrough
		default:
			text = append(text, r.char(false))
		}
	}
}

// withText returns l and behind it the text, if there is any.
func withText(l []api.Form, text []rune) []api.Form {
	if len(text) == 0 {
		return l
	}
	return append(l, api.Form{Kind: api.FormText, Text: text})
}

// char reads a character, or a backslash and the character for which the two stand.
func (r *reader) char(inPart bool) rune {
	c := r.next()
	r.at++
	if c == '\\' && escapable(r.next(), inPart) {
		c = r.next()
		r.at++
	}
	return c
}

// escapable reports whether a backslash before c is read together with c.
func escapable(c rune, inPart bool) bool {
	switch c {
	case '\\', '$', '}', '/':
		return true
	case ':':
		return inPart
	}
	return false
}

// part reads the part that begins with the $ that stands there; if there is none, it stays before the $.
func (r *reader) part() (api.Form, bool) {
	start := r.at
	r.at++
	braced := r.takes('{')
	group, ok := r.number()
	part := api.Form{Kind: api.FormGroup, Group: group}
	if ok && braced && !r.takes('}') {
		ok = r.takes(':') && r.choice(&part)
	}
	if !ok {
		r.at = start
	}
	return part, ok
}

// number reads a number, and reports whether it is one.
func (r *reader) number() (int, bool) {
	n, digits := 0, 0
	for c := r.next(); digits < 3 && '0' <= c && c <= '9'; c = r.next() {
		n = n*10 + int(c-'0')
		digits++
		r.at++
	}
	return n, digits == 1 || digits == 2
}

// choice reads what follows the number and the : of a part, up to its }, and fills it in; it reports whether all of it stands there.
func (r *reader) choice(part *api.Form) bool {
	ok := false
	switch r.next() {
	case '/':
		r.at++
		part.Case, ok = r.caseName()
		return ok && r.takes('}')
	case '+':
		r.at++
		part.Kind = api.FormIf
		part.Text, ok = r.textUpTo('}')
		return ok
	case '?':
		r.at++
		part.Kind = api.FormBoth
		part.Text, ok = r.textUpTo(':')
		if ok {
			part.Else, ok = r.textUpTo('}')
		}
		return ok
	case '-':
		r.at++
		fallthrough
	default:
		part.Kind = api.FormElse
		part.Else, ok = r.textUpTo('}')
		return ok
	}
}

// caseName reads the name of a case, and returns the case.
func (r *reader) caseName() (int, bool) {
	for how := api.CaseUp; how <= api.CaseCamel; how++ {
		if r.takesWord(caseNames[how]) {
			return how, true
		}
	}
	return api.CaseNone, false
}

// textUpTo reads a text inside a part and the closer behind it, and reports whether that stands there.
func (r *reader) textUpTo(closer rune) ([]rune, bool) {
	if r.unclosed {
		return nil, false
	}
	var text []rune
	for r.next() != end {
		if r.takes(closer) {
			return text, true
		}
		text = append(text, r.char(true))
	}
	if closer == '}' {
		r.unclosed = true
	}
	return nil, false
}
