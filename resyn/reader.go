package resyn

import "standish/api"

// end stands behind the last character of a text; it is not a character itself.
const end rune = -1

// endless is the Hi of a repeat without an upper bound.
const endless = -1

// reader reads a text of characters from left to right. What its methods return means nothing once there is a fault.
type reader struct {
	text   []rune
	at     int // the index of the next character
	open   int // the parentheses that are open there
	groups int // the numbered ones before it
	fault  api.Fault
}

// next returns the character at which the reader stands, or end.
func (r *reader) next() rune {
	if r.at == len(r.text) {
		return end
	}
	return r.text[r.at]
}

// takes reads c if it stands there, and reports whether it does.
func (r *reader) takes(c rune) bool {
	if r.next() != c {
		return false
	}
	r.at++
	return true
}

// needs reads c, which must stand there.
func (r *reader) needs(c rune) {
	if !r.takes(c) {
		r.fail(api.ErrSyntax, r.at)
	}
}

// fail keeps the first fault, and skips the rest of the text so that all reading comes to its end.
func (r *reader) fail(code api.Errno, at int) {
	if r.fault.Code == api.OK {
		r.fault = api.Fault{Code: code, At: at}
	}
	r.at = len(r.text)
}

// holding returns node and behind it what it contains, one deeper.
func holding(node api.Re, contents []api.Re) []api.Re {
	for i := range contents {
		contents[i].Deep++
	}
	return append([]api.Re{node}, contents...)
}

// pattern reads alternatives.
func (r *reader) pattern() []api.Re {
	rows := r.row()
	if r.next() != '|' {
		return rows
	}
	for r.takes('|') {
		rows = append(rows, r.row()...)
	}
	return holding(api.Re{Kind: api.ReAlt}, rows)
}

// row reads items, up to what can only stand behind a row.
func (r *reader) row() []api.Re {
	var items []api.Re
	for {
		switch r.next() {
		case '|', ')', end:
			return holding(api.Re{Kind: api.ReSeq}, items)
		case '^':
			r.at++
			items = append(items, api.Re{Kind: api.ReStart})
		case '$':
			r.at++
			items = append(items, api.Re{Kind: api.ReEnd})
		default:
			items = append(items, r.repeated(r.atom())...)
		}
	}
}

// atom reads what may be repeated.
func (r *reader) atom() []api.Re {
	c := r.next()
	switch c {
	case '*', '+', '?', '{':
		r.fail(api.ErrSyntax, r.at)
		return nil
	case '(':
		return r.group()
	}
	r.at++
	switch c {
	case '[':
		return []api.Re{r.class()}
	case '\\':
		return []api.Re{r.escaped()}
	case '.':
		return []api.Re{{Kind: api.ReSet, Not: true, Set: only('\n')}}
	}
	return []api.Re{{Kind: api.ReSet, Set: only(c)}}
}

// group reads parentheses and their pattern.
func (r *reader) group() []api.Re {
	node := api.Re{Kind: api.ReGroup}
	start := r.at
	r.at++
	switch {
	case r.open == api.MaxNest:
		r.fail(api.ErrDeep, start)
	case r.takes('?'):
		r.needs(':')
	case r.groups == api.MaxGroups:
		r.fail(api.ErrFull, start)
	default:
		r.groups++
		node.Lo = r.groups
	}
	r.open++
	contents := r.pattern()
	r.needs(')')
	r.open--
	return holding(node, contents)
}

// repeated reads a repeat, if there is one, and returns the atom in it.
func (r *reader) repeated(atom []api.Re) []api.Re {
	node := api.Re{Kind: api.ReRep}
	start := r.at
	switch {
	case r.takes('+'):
		node.Lo, node.Hi = 1, endless
	case r.takes('*'):
		node.Hi = endless
	case r.takes('?'):
		node.Hi = 1
	case r.takes('{'):
		node.Lo, node.Hi = r.bounds(start)
	default:
		return atom
	}
	node.Lazy = r.takes('?')
	return holding(node, atom)
}

// bounds reads the numbers of a repeat whose { stands at start, and its }.
func (r *reader) bounds(start int) (low, high int) {
	low = r.digit()
	high = low
	if r.takes(',') {
		high = endless
		if r.next() != '}' {
			high = r.digit()
		}
	}
	r.needs('}')
	if high != endless && low > high {
		r.fail(api.ErrSyntax, start)
	}
	return low, high
}

// digit reads a number of one digit.
func (r *reader) digit() int {
	c := r.next()
	if c < '0' || c > '9' {
		r.fail(api.ErrSyntax, r.at)
		return 0
	}
	r.at++
	return int(c - '0')
}
