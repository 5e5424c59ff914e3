// Package signs classifies characters and changes their case: see doc/01-signs.md.
package signs

import (
	"slices"

	"standish/api"
)

// May reports whether s holds nothing but characters (P1.1).
func May(s []rune) bool {
	for _, r := range s {
		if Class(r) == api.ClassNone {
			return false
		}
	}
	return true
}

// Same reports whether a and b are equal (P1.1).
func Same(a, b []rune) bool { return slices.Equal(a, b) }

// Less reports whether a stands before b in the lexicographic order of their numbers (P1.1).
func Less(a, b []rune) bool { return slices.Compare(a, b) < 0 }

// Class tells the class of r (P1.2).
func Class(r rune) int {
	switch {
	case r < 0, r > 0x10ffff, between(r, 0xd800, 0xdfff):
		return api.ClassNone
	case r == ' ':
		fallthrough
	case r == '\t':
		return api.ClassBlank
	case r == '\n':
		return api.ClassLine
	case smallLetter(r):
		fallthrough
	case capitalLetter(r):
		fallthrough
	case r == 0xdf, r == 0xff: // letters whose other case is not 32 away
		fallthrough
	case between(r, '0', '9'):
		fallthrough
	case r == '_':
		return api.ClassWord
	}
	return api.ClassOther
}

// Upper returns the capital letter of r, or r if it has none (P1.2).
func Upper(r rune) rune {
	if smallLetter(r) {
		return r - caseStep
	}
	return r
}

// Lower returns the small letter of r, or r if it has none (P1.2).
func Lower(r rune) rune {
	if capitalLetter(r) {
		return r + caseStep
	}
	return r
}

// Case returns a copy of s, changed as how says (P1.3).
func Case(s []rune, how int) []rune {
	switch how {
	case api.CaseUp:
		return mapped(s, Upper)
	case api.CaseDown:
		return mapped(s, Lower)
	case api.CaseCap:
		return capped(s)
	case api.CasePascal:
		return joined(s, Upper)
	case api.CaseCamel:
		return joined(s, Lower)
	}
	return cloned(s)
}

// caseStep is how far a small letter stands from its capital, in both alphabets.
const caseStep = 'a' - 'A'

func between(r, first, last rune) bool { return first <= r && r <= last }

// smallLetter leaves out f7: the division sign stands amid the letters.
func smallLetter(r rune) bool {
	return between(r, 'a', 'z') || between(r, 0xe0, 0xfe) && r != 0xf7
}

// capitalLetter leaves out d7: the multiplication sign stands amid the letters.
func capitalLetter(r rune) bool {
	return between(r, 'A', 'Z') || between(r, 0xc0, 0xde) && r != 0xd7
}

// cloned does without slices.Clone, whose empty result is still a slice of its argument.
func cloned(s []rune) []rune { return append([]rune(nil), s...) }

func mapped(s []rune, change func(rune) rune) []rune {
	out := cloned(s)
	for i, r := range out {
		out[i] = change(r)
	}
	return out
}

func capped(s []rune) []rune {
	out := cloned(s)
	if len(out) > 0 {
		out[0] = Upper(out[0])
	}
	return out
}

// joined puts the runs of s together; start changes the first element of the first run only, since all later runs begin with a capital.
func joined(s []rune, start func(rune) rune) []rune {
	var out []rune
	inside := false
	for _, r := range s {
		if !ofRun(r) {
			inside = false
			continue
		}
		if !inside {
			r = start(r)
			start, inside = Upper, true
		}
		out = append(out, r)
	}
	return out
}

func ofRun(r rune) bool { return r != '_' && Class(r) == api.ClassWord }
