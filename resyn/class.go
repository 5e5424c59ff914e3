package resyn

import (
	"standish/api"
	"standish/signs"
)

// only returns the range of a single character.
func only(c rune) []rune { return []rune{c, c} }

// single reports whether the ranges of a member are those of one character: what \d, \w and \s mean never looks like that.
func single(set []rune) bool { return len(set) == 2 && set[0] == set[1] }

// class reads a class behind its [.
func (r *reader) class() api.Re {
	node := api.Re{Kind: api.ReSet, Not: r.takes('^')}
	if r.next() == ']' {
		r.fail(api.ErrSyntax, r.at) // a class has a member
	}
	for r.next() != ']' && r.next() != end {
		node.Set = append(node.Set, r.member()...)
	}
	r.needs(']')
	return node
}

// member reads a member of a class, with the - behind it if it is followed by one, and returns its ranges.
func (r *reader) member() []rune {
	start := r.at
	set := r.part()
	if !single(set) || !r.takes('-') {
		return set
	}
	if r.next() == ']' || r.next() == end {
		return append(set, only('-')...)
	}
	other := r.part()
	if !single(other) {
		return append(append(set, only('-')...), other...)
	}
	if set[0] > other[0] {
		r.fail(api.ErrSyntax, start)
	}
	return []rune{set[0], other[0]}
}

// part reads a member of a class that is not a range, and returns its ranges.
func (r *reader) part() []rune {
	c := r.next()
	r.at++
	if c != '\\' {
		return only(c)
	}
	at := r.at
	node := r.escaped()
	if node.Not {
		r.fail(api.ErrSyntax, at)
	}
	return node.Set
}

// escaped reads the character behind a backslash and returns the set of what it means.
func (r *reader) escaped() api.Re {
	node := meant(r.next())
	if len(node.Set) == 0 {
		r.fail(api.ErrSyntax, r.at)
		return node
	}
	r.at++
	return node
}

// meant returns the set of what c means behind a backslash; it has no ranges if c may not stand there.
func meant(c rune) api.Re {
	node := api.Re{Kind: api.ReSet}
	switch c {
	case 'D':
		node.Not = true
		fallthrough
	case 'd':
		node.Set = []rune{'0', '9'}
	case 'W':
		node.Not = true
		fallthrough
	case 'w':
		node.Set = []rune{'a', 'z', 'A', 'Z', '0', '9', '_', '_'}
	case 'S':
		node.Not = true
		fallthrough
	case 's':
		node.Set = []rune{' ', ' ', '\t', '\t', '\n', '\n'}
	case 'n':
		node.Set = only('\n')
	case 't':
		node.Set = only('\t')
	default:
		if class := signs.Class(c); class == api.ClassOther || class == api.ClassBlank {
			node.Set = only(c)
		}
	}
	return node
}
