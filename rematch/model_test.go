package rematch_test

import (
	"slices"
	"testing"

	"standish/api"
	"standish/reprog"
	"standish/signs"
)

// A trial is one Find, done as P10.2 says it: by recursion, with copies of what is recorded instead of undoing it, and with a map of what was reached.
type trial struct {
	program []api.Inst
	fold    bool
	text    []rune
	reached map[place]struct{}
}

// A place is an instruction at an index.
type place struct{ inst, at int }

// find is the result of Find; nil is none.
func (r *trial) find(groups, from int) []int {
	if len(r.text) > 1000 || from < 0 {
		return nil
	}
	nothing := make([]int, 2*groups+2)
	for x := range nothing {
		nothing[x] = -1
	}
	for at := from; at <= len(r.text); at++ {
		if recorded := r.path(0, at, nothing); recorded != nil {
			return recorded
		}
	}
	return nil
}

// path is what is recorded on the path that reaches the end from an instruction and an index on; nil is none.
func (r *trial) path(number, at int, recorded []int) []int {
	if _, again := r.reached[place{number, at}]; again {
		return nil
	}
	r.reached[place{number, at}] = struct{}{}
	inst := r.program[number]
	switch {
	case inst.Op == api.InMatch:
		return recorded
	case inst.Op == api.InSet && at < len(r.text) && r.inSet(inst, r.text[at]):
		return r.path(number+1, at+1, recorded)
	case inst.Op == api.InStart && at == 0, inst.Op == api.InEnd && at == len(r.text):
		return r.path(number+1, at, recorded)
	case inst.Op == api.InSave:
		recorded = slices.Clone(recorded)
		recorded[inst.X] = at
		return r.path(number+1, at, recorded)
	case inst.Op == api.InJump:
		return r.path(inst.X, at, recorded)
	case inst.Op == api.InSplit:
		if first := r.path(inst.X, at, recorded); first != nil {
			return first
		}
		return r.path(inst.Y, at, recorded)
	}
	return nil
}

func (r *trial) inSet(inst api.Inst, c rune) bool {
	for i := 0; i < len(inst.Set); i += 2 {
		for _, c := range []rune{c, signs.Upper(c), signs.Lower(c)} {
			if c >= inst.Set[i] && c <= inst.Set[i+1] {
				return !inst.Not
			}
			if !r.fold {
				break
			}
		}
	}
	return inst.Not
}

// modelAll is the result of All, by a search from every index that P10.3 names.
func modelAll(find func(from int) []int, length int) [][]int {
	var all [][]int
	for from := 0; from <= length; {
		match := find(from)
		if match == nil {
			break
		}
		all = append(all, match)
		from = max(match[1], match[0]+1)
	}
	return all
}

// mustBeModel holds all that a matcher finds in a text to the model.
func mustBeModel(t *testing.T, pattern string, fold bool, text []rune) {
	t.Helper()
	m := mustNew(t, pattern, fold)
	program, _ := reprog.Compile([]rune(pattern))
	find := func(from int) []int {
		r := trial{program: program, fold: fold, text: text, reached: map[place]struct{}{}}
		return r.find(m.Groups(), from)
	}
	for from := -1; from <= len(text)+1; from++ {
		want := find(from)
		if got, ok := m.Find(text, from); ok != (want != nil) || !slices.Equal(got, want) {
			t.Errorf("%q, %v, in %q from %d: %v, %v, want %v", pattern, fold, string(text), from, got, ok, want)
		}
	}
	if got, want := m.All(text), modelAll(find, len(text)); !slices.EqualFunc(got, want, slices.Equal) {
		t.Errorf("all %q, %v, in %q: %v, want %v", pattern, fold, string(text), got, want)
	}
}

// everyText is called for every text of at most n elements behind a head.
func everyText(head, alphabet string, n int, do func(text []rune)) {
	do([]rune(head))
	if n == 0 {
		return
	}
	for _, c := range alphabet {
		everyText(head+string(c), alphabet, n-1, do)
	}
}

// TestP102AndP103AllShortPatterns holds every short pattern of some alphabets, in some texts, to the model.
func TestP102AndP103AllShortPatterns(t *testing.T) {
	cases := []struct {
		alphabet string
		n        int
	}{{"a()?|*", 6}, {"ab()|+?", 5}, {"a.^$|?+", 5}, {"A[^-b]?", 6}, {"ab(){2}?", 5}}
	for _, c := range cases {
		everyText("", c.alphabet, c.n, func(pattern []rune) {
			if _, f := reprog.Compile(pattern); f.Code != api.OK {
				return
			}
			for i, text := range []string{"", "a", "ab", "bAa", "aaba"} {
				mustBeModel(t, string(pattern), i%2 == 1, []rune(text))
			}
		})
	}
}

// TestP102AndP103AllShortTexts holds some patterns, in every short text, to the model.
func TestP102AndP103AllShortTexts(t *testing.T) {
	patterns := []string{
		"(a*)*", "(a|b*)*", "((a*)b*)*", "(a*)+?(b)??", "(?:(a)|b)*", "(?:(.)b)*", "(a|ab)(c|ba)?", "((a?)(b?)){2,3}",
		"(?:^|b)(a*)$", "(?:(a)|(b)|(c)a)*", "(|a)*(|b)+", "(()|a)*b", "(a*?)*?b", "((a*)*|b)*c", "[^a]+(\\w)", ".(.)*c",
	}
	for _, p := range patterns {
		everyText("", "abc", 5, func(text []rune) { mustBeModel(t, p, false, text) })
		everyText("", "aBb\n", 3, func(text []rune) { mustBeModel(t, p, true, text) })
	}
}
